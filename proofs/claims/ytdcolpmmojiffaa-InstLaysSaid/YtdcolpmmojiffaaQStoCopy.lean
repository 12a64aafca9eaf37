/-
  StoCopy: The given Copy: the same store in memory of its own. Conditions: the store's slices lead to what they say. (Written by wip/tools/genstocopy.py: a lemma for each state of the one drawn region.)
-/
import Derived.Test.YtdcolpmmojiffaaQStoCpy
namespace Go.Proofs.Ytdcolpmmojiffaa.Sto
open Go.RowKit Leb Typ

theorem news_stf {w : World} {lo : Nat} {g : GSt} {C0 C2 C3 C4 C5 : Option Addr} {d0 d2 d3 d4 d5 : Nat} (hb : ∀ x ∈ g.mem, x < 256) (h : NewS kB lo w C0 d0 g.mem ∧ NewS kI lo w C2 d2 g.tab ∧ NewS kN lo w C3 d3 g.glo ∧ NewS kO lo w C4 d4 g.els ∧ NewS kO lo w C5 d5 g.dat) : StF w w.heap.size ⟨C0, d0, C2, d2, C3, d3, C4, d4, C5, d5⟩ g :=
  ⟨⟨lead_bytes hb h.1.lead', lead_ints h.2.1.lead', lead_nums h.2.2.1.lead', lead_bools h.2.2.2.1.lead', lead_bools h.2.2.2.2.lead'⟩, ⟨h.1.room, h.2.1.room, h.2.2.1.room, h.2.2.2.1.room, h.2.2.2.2.room, h.1.nil, h.2.1.nil, h.2.2.1.nil, h.2.2.2.1.nil, h.2.2.2.2.nil⟩⟩
theorem cpy_any (p : PSt) (g : GSt) (w : World) (h : StF w w.heap.size p g) (hl : g.mem.length ≤ 1000000) : Calls Try.prog 16 #[.slice p.A0 g.mem.length p.c0] w fun e w' => ∃ C d, e = .returned (.slice C g.mem.length d) ∧ NewS kB w.heap.size w' C d g.mem ∧ Below w.heap.size w w' := by
  refine (gives_b (copy_any p.A0 g.mem p.c0 w h.l.mem h.r.m0 (by omega)) h.l.mem.1 rfl).mono ?_
  rintro e w' ⟨A, c, rfl, h1, h2, h3, h4, h5⟩
  exact ⟨A, c, rfl, OwnK.news (K := kB) (n := g.mem.length) h1, h5⟩
set_option maxRecDepth 100000 in
set_option maxHeartbeats 60000000 in
set_option linter.unusedSimpArgs false in
theorem rcopy_any (p : PSt) (g : GSt) (w : World) (hst : StF w w.heap.size p g) (hti : g.tiny) : Calls Try.prog 7 #[vSt p g] w fun e w' => ∃ p', e = .returned (vSt p' g) ∧ StF w' w'.heap.size p' g ∧ Below w.heap.size w w' := by
  have HST := Lib.hid hst
  have HFI : Hid (g.mem.length ≤ 1000000 ∧ g.tab.length ≤ 1000000 ∧ g.glo.length ≤ 1000000 ∧ g.els.length ≤ 1000000 ∧ g.dat.length ≤ 1000000) := Lib.hid (by have := hti; unfold GSt.tiny at this; omega)
  have HMY : Hid (∀ x ∈ g.mem, x < 256) := Lib.hid hst.l.mem.1
  clear hst hti
  go_enter Try.func7, Try.ntmps7
  go_upto_region 1 with fail
  refine (show ∀ U, AN w U w.heap.size p g → Code.wp _ _ _ _ U from fun V0 hF => ?_) _ ?_
  rotate_left
  · refine ⟨((Below.refl _ _).alloc (Nat.le_refl _) _).alloc (by simp) _, Nat.le_refl _, boxs_past (boxs_new w p g) _, ?_⟩
    have hz : (w.alloc (.cells (vSt p g).cells 27)).heap.size = w.heap.size + 1 := by simp
    rw [← hz]
    have := boxs_new (w.alloc (.cells (vSt p g).cells 27)) ⟨none, 0, none, 0, none, 0, none, 0, none, 0⟩ zeroG
    exact this
  have HCELL : Hid (∀ V, BoxS V w.heap.size p g → Fs [(⟨w.heap.size, 0, none⟩, .slice p.A0 g.mem.length p.c0), (⟨w.heap.size, 1, none⟩, .int .i64 g.cap), (⟨w.heap.size, 2, none⟩, .slice p.A2 g.tab.length p.c2), (⟨w.heap.size, 3, none⟩, .slice p.A3 g.glo.length p.c3), (⟨w.heap.size, 4, none⟩, .slice p.A4 g.els.length p.c4), (⟨w.heap.size, 5, none⟩, .slice p.A5 g.dat.length p.c5)] V) := Lib.hid fun V h => by
    obtain ⟨k0, k1, k2, k3, k4, k5⟩ := h.cells
    exact ⟨k0, k1, k2, k3, k4, k5, trivial⟩
  have HA1 := Lib.hid hF.drew
  clear hF
  refine wp_region_held_drew (S := Fs [(⟨w.heap.size, 0, none⟩, .slice p.A0 g.mem.length p.c0), (⟨w.heap.size, 1, none⟩, .int .i64 g.cap), (⟨w.heap.size, 2, none⟩, .slice p.A2 g.tab.length p.c2), (⟨w.heap.size, 3, none⟩, .slice p.A3 g.glo.length p.c3), (⟨w.heap.size, 4, none⟩, .slice p.A4 g.els.length p.c4), (⟨w.heap.size, 5, none⟩, .slice p.A5 g.dat.length p.c5)]) (by kernel_rfl) (HCELL.out _ HA1.out.box) (fun hS => ?_)
  generalize V0.drew = V at *
  refine wpAnyH_take (i := 0) (oi := { dst := some 3, op := .fieldAddr 27 (.tmp 1) 0, type := 0, pos := "ref.go:194", after := #[], guard := none }) (v := ?_) rfl (by kernel_rfl) (by kernel_rfl) (by kernel_rfl) (fun _ _ _ h => h) (Or.inl ⟨by rfl, ?_⟩) hS ?_
  rotate_left
  · (intro w' hS'; obtain ⟨s0, s1, s2, s3, s4, s5, -⟩ := hS'; go_simp) <;> with_reducible rfl
  try simp only [Act.put, List.setIfInBounds_toArray, List.set_cons_zero, List.set_cons_succ]
  refine wpAnyH_take (i := 1) (oi := { dst := some 4, op := .load 22 (.tmp 3), type := 22, pos := "ref.go:194", after := #[{ on := 0, ground := .data }], guard := none }) (v := ?_) rfl (by kernel_rfl) (by kernel_rfl) (by kernel_rfl) (fun _ _ _ h => h) (Or.inl ⟨by rfl, ?_⟩) hS ?_
  rotate_left
  · (intro w' hS'; obtain ⟨s0, s1, s2, s3, s4, s5, -⟩ := hS'; go_simp) <;> with_reducible rfl
  try simp only [Act.put, List.setIfInBounds_toArray, List.set_cons_zero, List.set_cons_succ]
  refine wpAnyH_take (i := 3) (oi := { dst := some 6, op := .fieldAddr 27 (.tmp 1) 1, type := 0, pos := "ref.go:194", after := #[], guard := none }) (v := ?_) rfl (by kernel_rfl) (by kernel_rfl) (by kernel_rfl) (fun _ _ _ h => h) (Or.inl ⟨by rfl, ?_⟩) hS ?_
  rotate_left
  · (intro w' hS'; obtain ⟨s0, s1, s2, s3, s4, s5, -⟩ := hS'; go_simp) <;> with_reducible rfl
  try simp only [Act.put, List.setIfInBounds_toArray, List.set_cons_zero, List.set_cons_succ]
  refine wpAnyH_take (i := 4) (oi := { dst := some 7, op := .load 3 (.tmp 6), type := 3, pos := "ref.go:194", after := #[{ on := 3, ground := .data }], guard := none }) (v := ?_) rfl (by kernel_rfl) (by kernel_rfl) (by kernel_rfl) (fun _ _ _ h => h) (Or.inl ⟨by rfl, ?_⟩) hS ?_
  rotate_left
  · (intro w' hS'; obtain ⟨s0, s1, s2, s3, s4, s5, -⟩ := hS'; go_simp) <;> with_reducible rfl
  try simp only [Act.put, List.setIfInBounds_toArray, List.set_cons_zero, List.set_cons_succ]
  refine wpAnyH_take (i := 6) (oi := { dst := some 9, op := .fieldAddr 27 (.tmp 1) 2, type := 0, pos := "ref.go:194", after := #[], guard := none }) (v := ?_) rfl (by kernel_rfl) (by kernel_rfl) (by kernel_rfl) (fun _ _ _ h => h) (Or.inl ⟨by rfl, ?_⟩) hS ?_
  rotate_left
  · (intro w' hS'; obtain ⟨s0, s1, s2, s3, s4, s5, -⟩ := hS'; go_simp) <;> with_reducible rfl
  try simp only [Act.put, List.setIfInBounds_toArray, List.set_cons_zero, List.set_cons_succ]
  refine wpAnyH_take (i := 7) (oi := { dst := some 10, op := .load 23 (.tmp 9), type := 23, pos := "ref.go:194", after := #[{ on := 6, ground := .data }], guard := none }) (v := ?_) rfl (by kernel_rfl) (by kernel_rfl) (by kernel_rfl) (fun _ _ _ h => h) (Or.inl ⟨by rfl, ?_⟩) hS ?_
  rotate_left
  · (intro w' hS'; obtain ⟨s0, s1, s2, s3, s4, s5, -⟩ := hS'; go_simp) <;> with_reducible rfl
  try simp only [Act.put, List.setIfInBounds_toArray, List.set_cons_zero, List.set_cons_succ]
  refine wpAnyH_take (i := 10) (oi := { dst := some 13, op := .fieldAddr 27 (.tmp 1) 3, type := 0, pos := "ref.go:194", after := #[], guard := none }) (v := ?_) rfl (by kernel_rfl) (by kernel_rfl) (by kernel_rfl) (fun _ _ _ h => h) (Or.inl ⟨by rfl, ?_⟩) hS ?_
  rotate_left
  · (intro w' hS'; obtain ⟨s0, s1, s2, s3, s4, s5, -⟩ := hS'; go_simp) <;> with_reducible rfl
  try simp only [Act.put, List.setIfInBounds_toArray, List.set_cons_zero, List.set_cons_succ]
  refine wpAnyH_take (i := 11) (oi := { dst := some 14, op := .load 24 (.tmp 13), type := 24, pos := "ref.go:194", after := #[{ on := 10, ground := .data }], guard := none }) (v := ?_) rfl (by kernel_rfl) (by kernel_rfl) (by kernel_rfl) (fun _ _ _ h => h) (Or.inl ⟨by rfl, ?_⟩) hS ?_
  rotate_left
  · (intro w' hS'; obtain ⟨s0, s1, s2, s3, s4, s5, -⟩ := hS'; go_simp) <;> with_reducible rfl
  try simp only [Act.put, List.setIfInBounds_toArray, List.set_cons_zero, List.set_cons_succ]
  refine wpAnyH_take (i := 14) (oi := { dst := some 17, op := .fieldAddr 27 (.tmp 1) 4, type := 0, pos := "ref.go:194", after := #[], guard := none }) (v := ?_) rfl (by kernel_rfl) (by kernel_rfl) (by kernel_rfl) (fun _ _ _ h => h) (Or.inl ⟨by rfl, ?_⟩) hS ?_
  rotate_left
  · (intro w' hS'; obtain ⟨s0, s1, s2, s3, s4, s5, -⟩ := hS'; go_simp) <;> with_reducible rfl
  try simp only [Act.put, List.setIfInBounds_toArray, List.set_cons_zero, List.set_cons_succ]
  refine wpAnyH_take (i := 15) (oi := { dst := some 18, op := .load 25 (.tmp 17), type := 25, pos := "ref.go:194", after := #[{ on := 14, ground := .data }], guard := none }) (v := ?_) rfl (by kernel_rfl) (by kernel_rfl) (by kernel_rfl) (fun _ _ _ h => h) (Or.inl ⟨by rfl, ?_⟩) hS ?_
  rotate_left
  · (intro w' hS'; obtain ⟨s0, s1, s2, s3, s4, s5, -⟩ := hS'; go_simp) <;> with_reducible rfl
  try simp only [Act.put, List.setIfInBounds_toArray, List.set_cons_zero, List.set_cons_succ]
  refine wpAnyH_take (i := 18) (oi := { dst := some 21, op := .fieldAddr 27 (.tmp 1) 5, type := 0, pos := "ref.go:194", after := #[], guard := none }) (v := ?_) rfl (by kernel_rfl) (by kernel_rfl) (by kernel_rfl) (fun _ _ _ h => h) (Or.inl ⟨by rfl, ?_⟩) hS ?_
  rotate_left
  · (intro w' hS'; obtain ⟨s0, s1, s2, s3, s4, s5, -⟩ := hS'; go_simp) <;> with_reducible rfl
  try simp only [Act.put, List.setIfInBounds_toArray, List.set_cons_zero, List.set_cons_succ]
  refine wpAnyH_take (i := 19) (oi := { dst := some 22, op := .load 25 (.tmp 21), type := 25, pos := "ref.go:194", after := #[{ on := 18, ground := .data }], guard := none }) (v := ?_) rfl (by kernel_rfl) (by kernel_rfl) (by kernel_rfl) (fun _ _ _ h => h) (Or.inl ⟨by rfl, ?_⟩) hS ?_
  rotate_left
  · (intro w' hS'; obtain ⟨s0, s1, s2, s3, s4, s5, -⟩ := hS'; go_simp) <;> with_reducible rfl
  try simp only [Act.put, List.setIfInBounds_toArray, List.set_cons_zero, List.set_cons_succ]
  show wpAnyH ?xP ?xM ?xO ?xQ ?xS ?xN ?xL ?xA V
  have K5_1111 : ∀ (C0 : Option Addr) (d0 : Nat) (C2 : Option Addr) (d2 : Nat) (C3 : Option Addr) (d3 : Nat) (C4 : Option Addr) (d4 : Nat) (C5 : Option Addr) (d5 : Nat) (e5 : Nat) (e9 : Nat) (e13 : Nat) (e17 : Nat) (L : Array Bool) (U : World), L = #[true, true, true, true, true, true, true, true, true, true, true, true, true, true, true, true, true, true, true, true, true, false, false] → Hid (AN w U w.heap.size p g) → Hid (NewS kB (w.heap.size + 2) U C0 d0 g.mem) → Hid (NewS kI (w.heap.size + 2) U C2 d2 g.tab) → Hid (NewS kN (w.heap.size + 2) U C3 d3 g.glo) → Hid (NewS kO (w.heap.size + 2) U C4 d4 g.els) → Hid (NewS kO (w.heap.size + 2) U C5 d5 g.dat) → wpAnyH ?xP ?xM ?xO ?xQ ?xS 2 L (Act.put (Act.put (Act.put (Act.put (Act.put (Act.put (Act.put (Act.put (Act.put ?xA (some 5) (.slice C0 g.mem.length d0)) (some 8) (.slice (some ⟨e5, 0, none⟩) 0 0)) (some 11) (.slice C2 g.tab.length d2)) (some 12) (.slice (some ⟨e9, 0, none⟩) 0 0)) (some 15) (.slice C3 g.glo.length d3)) (some 16) (.slice (some ⟨e13, 0, none⟩) 0 0)) (some 19) (.slice C4 g.els.length d4)) (some 20) (.slice (some ⟨e17, 0, none⟩) 0 0)) (some 23) (.slice C5 g.dat.length d5)) U := by
    clear HA1 hS
    rintro C0 d0 C2 d2 C3 d3 C4 d4 C5 d5 e5 e9 e13 e17 L U rfl HA HF0 HF2 HF3 HF4 HF5
    have hS := HCELL.out _ HA.out.box
    try simp only [Act.put, List.setIfInBounds_toArray, List.set_cons_zero, List.set_cons_succ]
    refine wpAnyH_take (i := 21) (oi := _) (v := ?_) rfl (by kernel_rfl) (by kernel_rfl) (by kernel_rfl) (fun _ _ _ h => h) (Or.inl ⟨by rfl, ?_⟩) hS ?_
    rotate_left
    · (intro w' hS'; obtain ⟨s0, s1, s2, s3, s4, s5, -⟩ := hS'; go_simp) <;> with_reducible rfl
    try simp only [Act.put, List.setIfInBounds_toArray, List.set_cons_zero, List.set_cons_succ]
    refine wpAnyH_ready (rs := [22]) (by kernel_rfl) (by simp) ?_
    refine AllReadyH.cons (o := _) rfl (fun K' hK => ?_) (AllReadyH.nil)
    obtain ⟨r0, r1, r2, r3, r4, r5⟩ := HA.out.res.cells
    simp only [show zeroG.mem.length = 0 from rfl, show zeroG.tab.length = 0 from rfl, show zeroG.glo.length = 0 from rfl, show zeroG.els.length = 0 from rfl, show zeroG.dat.length = 0 from rfl, show zeroG.cap = 0 from rfl] at r0 r1 r2 r3 r4 r5
    have fr' := fun i => HA.out.res.free i
    have f0 := fr' 0
    have f1 := fr' 1
    have f2 := fr' 2
    have f3 := fr' 3
    have f4 := fr' 4
    have f5 := fr' 5
    clear fr'
    go_simp
    clear r0 r1 r2 r3 r4 r5 f0 f1 f2 f3 f4 f5
    change K' _ (putS U (w.heap.size + 1) ⟨C0, d0, C2, d2, C3, d3, C4, d4, C5, d5⟩ g)
    have HX := Lib.hid (HA.out.res.put ⟨C0, d0, C2, d2, C3, d3, C4, d4, C5, d5⟩ g)
    have HZ := Lib.hid (below_put (n := w.heap.size + 1) HA.out.b ⟨C0, d0, C2, d2, C3, d3, C4, d4, C5, d5⟩ g (by omega))
    have HBX : Hid (BoxS (putS U (w.heap.size + 1) ⟨C0, d0, C2, d2, C3, d3, C4, d4, C5, d5⟩ g) w.heap.size p g) := Lib.hid (box_put HA.out.box ⟨C0, d0, C2, d2, C3, d3, C4, d4, C5, d5⟩ g (by omega))
    have HN : Hid (NewS kB (w.heap.size + 2) (putS U (w.heap.size + 1) ⟨C0, d0, C2, d2, C3, d3, C4, d4, C5, d5⟩ g) C0 d0 g.mem ∧ NewS kI (w.heap.size + 2) (putS U (w.heap.size + 1) ⟨C0, d0, C2, d2, C3, d3, C4, d4, C5, d5⟩ g) C2 d2 g.tab ∧ NewS kN (w.heap.size + 2) (putS U (w.heap.size + 1) ⟨C0, d0, C2, d2, C3, d3, C4, d4, C5, d5⟩ g) C3 d3 g.glo ∧ NewS kO (w.heap.size + 2) (putS U (w.heap.size + 1) ⟨C0, d0, C2, d2, C3, d3, C4, d4, C5, d5⟩ g) C4 d4 g.els ∧ NewS kO (w.heap.size + 2) (putS U (w.heap.size + 1) ⟨C0, d0, C2, d2, C3, d3, C4, d4, C5, d5⟩ g) C5 d5 g.dat) := Lib.hid ⟨HF0.out.put _ _ (by omega), HF2.out.put _ _ (by omega), HF3.out.put _ _ (by omega), HF4.out.put _ _ (by omega), HF5.out.put _ _ (by omega)⟩
    clear HA HF0 HF2 HF3 HF4 HF5 hS
    generalize putS U (w.heap.size + 1) ⟨C0, d0, C2, d2, C3, d3, C4, d4, C5, d5⟩ g = V6 at *
    refine hK.out _ _ (HCELL.out _ HBX.out) (fun hS => ?_)
    try simp only [Act.put, List.setIfInBounds_toArray, List.set_cons_zero, List.set_cons_succ]
    refine wpAnyH_done (by kernel_rfl) ?_ _
    clear hS HBX
    obtain ⟨k0, k1, k2, k3, k4, k5⟩ := HX.out.cells
    go_wp2
    refine bodyPost_ret (v := vSt ⟨C0, d0, C2, d2, C3, d3, C4, d4, C5, d5⟩ g) (by simp [results, Try.results7, go_sem, vSt, k0, k1, k2, k3, k4, k5]) rfl ?_
    exact ⟨⟨C0, d0, C2, d2, C3, d3, C4, d4, C5, d5⟩, rfl, news_stf HMY.out HN.out, HZ.out⟩
  try simp only [Act.put, List.setIfInBounds_toArray, List.set_cons_zero, List.set_cons_succ] at K5_1111
  have K4_1111 : ∀ (C0 : Option Addr) (d0 : Nat) (C2 : Option Addr) (d2 : Nat) (C3 : Option Addr) (d3 : Nat) (C4 : Option Addr) (d4 : Nat) (e5 : Nat) (e9 : Nat) (e13 : Nat) (e17 : Nat) (L : Array Bool) (U : World), L = #[true, true, true, true, true, true, true, true, true, true, true, true, true, true, true, true, true, true, true, true, false, false, false] → Hid (AN w U w.heap.size p g) → Hid (NewS kB (w.heap.size + 2) U C0 d0 g.mem) → Hid (NewS kI (w.heap.size + 2) U C2 d2 g.tab) → Hid (NewS kN (w.heap.size + 2) U C3 d3 g.glo) → Hid (NewS kO (w.heap.size + 2) U C4 d4 g.els) → wpAnyH ?xP ?xM ?xO ?xQ ?xS 3 L (Act.put (Act.put (Act.put (Act.put (Act.put (Act.put (Act.put (Act.put ?xA (some 5) (.slice C0 g.mem.length d0)) (some 8) (.slice (some ⟨e5, 0, none⟩) 0 0)) (some 11) (.slice C2 g.tab.length d2)) (some 12) (.slice (some ⟨e9, 0, none⟩) 0 0)) (some 15) (.slice C3 g.glo.length d3)) (some 16) (.slice (some ⟨e13, 0, none⟩) 0 0)) (some 19) (.slice C4 g.els.length d4)) (some 20) (.slice (some ⟨e17, 0, none⟩) 0 0)) U := by
    clear HA1 hS
    rintro C0 d0 C2 d2 C3 d3 C4 d4 e5 e9 e13 e17 L U rfl HA HF0 HF2 HF3 HF4
    have hS := HCELL.out _ HA.out.box
    try simp only [Act.put, List.setIfInBounds_toArray, List.set_cons_zero, List.set_cons_succ]
    refine wpAnyH_ready (rs := [20]) (by kernel_rfl) (by simp) ?_
    refine AllReadyH.cons (o := _) rfl (fun K' hK => ?_) (AllReadyH.nil)
    refine step_app_e kO rfl (.tmp 20) (.tmp 22) rfl e17 (by kernel_rfl) p.A5 p.c5 g.dat (by kernel_rfl) w.heap.size (bools_lead (HST.out.l.dat.below HA.out.b)) HST.out.r.d0 (by have := HFI.out; omega) ?_
    intro C5 d5 V hn hbel
    have HA' := Lib.hid (HA.out.next hbel)
    replace HF0 := Lib.hid (HF0.out.keep hbel)
    replace HF2 := Lib.hid (HF2.out.keep hbel)
    replace HF3 := Lib.hid (HF3.out.keep hbel)
    replace HF4 := Lib.hid (HF4.out.keep hbel)
    have HF5 : Hid (NewS kO (w.heap.size + 2) V C5 d5 g.dat) := Lib.hid (hn.base (by have := HA.out.res.lt; omega))
    clear hn hbel
    refine hK.out _ _ (HCELL.out _ HA'.out.box) (fun hS => ?_)
    try simp only [Act.put, List.setIfInBounds_toArray, List.set_cons_zero, List.set_cons_succ]
    exact K5_1111 C0 d0 C2 d2 C3 d3 C4 d4 C5 d5 e5 e9 e13 e17 _ _ (by kernel_rfl) HA' HF0 HF2 HF3 HF4 HF5
  try simp only [Act.put, List.setIfInBounds_toArray, List.set_cons_zero, List.set_cons_succ] at K4_1111
  have K4_1110 : ∀ (C0 : Option Addr) (d0 : Nat) (C2 : Option Addr) (d2 : Nat) (C3 : Option Addr) (d3 : Nat) (C4 : Option Addr) (d4 : Nat) (e5 : Nat) (e9 : Nat) (e13 : Nat) (L : Array Bool) (U : World), L = #[true, true, true, true, true, true, true, true, true, true, true, true, true, true, true, true, true, false, true, true, false, false, false] → Hid (AN w U w.heap.size p g) → Hid (NewS kB (w.heap.size + 2) U C0 d0 g.mem) → Hid (NewS kI (w.heap.size + 2) U C2 d2 g.tab) → Hid (NewS kN (w.heap.size + 2) U C3 d3 g.glo) → Hid (NewS kO (w.heap.size + 2) U C4 d4 g.els) → wpAnyH ?xP ?xM ?xO ?xQ ?xS 4 L (Act.put (Act.put (Act.put (Act.put (Act.put (Act.put (Act.put ?xA (some 5) (.slice C0 g.mem.length d0)) (some 8) (.slice (some ⟨e5, 0, none⟩) 0 0)) (some 11) (.slice C2 g.tab.length d2)) (some 12) (.slice (some ⟨e9, 0, none⟩) 0 0)) (some 15) (.slice C3 g.glo.length d3)) (some 16) (.slice (some ⟨e13, 0, none⟩) 0 0)) (some 19) (.slice C4 g.els.length d4)) U := by
    clear HA1 hS
    rintro C0 d0 C2 d2 C3 d3 C4 d4 e5 e9 e13 L U rfl HA HF0 HF2 HF3 HF4
    have hS := HCELL.out _ HA.out.box
    try simp only [Act.put, List.setIfInBounds_toArray, List.set_cons_zero, List.set_cons_succ]
    refine wpAnyH_ready (rs := [17]) (by kernel_rfl) (by simp) ?_
    refine AllReadyH.cons (o := _) rfl (fun K' hK => ?_) (AllReadyH.nil)
    go_simp
    have HA' := Lib.hid (HA.out.next ((Below.refl U.heap.size U).alloc (Nat.le_refl _) (.cells #[] 4)))
    replace HF0 := Lib.hid (HF0.out.keep ((Below.refl U.heap.size U).alloc (Nat.le_refl _) (.cells #[] 4)))
    replace HF2 := Lib.hid (HF2.out.keep ((Below.refl U.heap.size U).alloc (Nat.le_refl _) (.cells #[] 4)))
    replace HF3 := Lib.hid (HF3.out.keep ((Below.refl U.heap.size U).alloc (Nat.le_refl _) (.cells #[] 4)))
    replace HF4 := Lib.hid (HF4.out.keep ((Below.refl U.heap.size U).alloc (Nat.le_refl _) (.cells #[] 4)))
    refine hK.out _ _ (HCELL.out _ HA'.out.box) (fun hS => ?_)
    try simp only [Act.put, List.setIfInBounds_toArray, List.set_cons_zero, List.set_cons_succ]
    exact K4_1111 C0 d0 C2 d2 C3 d3 C4 d4 e5 e9 e13 U.heap.size _ _ (by kernel_rfl) HA' HF0 HF2 HF3 HF4
  try simp only [Act.put, List.setIfInBounds_toArray, List.set_cons_zero, List.set_cons_succ] at K4_1110
  have K3_1111 : ∀ (C0 : Option Addr) (d0 : Nat) (C2 : Option Addr) (d2 : Nat) (C3 : Option Addr) (d3 : Nat) (e5 : Nat) (e9 : Nat) (e13 : Nat) (e17 : Nat) (L : Array Bool) (U : World), L = #[true, true, true, true, true, true, true, true, true, true, true, true, true, true, true, true, false, true, true, true, false, false, false] → Hid (AN w U w.heap.size p g) → Hid (NewS kB (w.heap.size + 2) U C0 d0 g.mem) → Hid (NewS kI (w.heap.size + 2) U C2 d2 g.tab) → Hid (NewS kN (w.heap.size + 2) U C3 d3 g.glo) → wpAnyH ?xP ?xM ?xO ?xQ ?xS 4 L (Act.put (Act.put (Act.put (Act.put (Act.put (Act.put (Act.put ?xA (some 5) (.slice C0 g.mem.length d0)) (some 8) (.slice (some ⟨e5, 0, none⟩) 0 0)) (some 11) (.slice C2 g.tab.length d2)) (some 12) (.slice (some ⟨e9, 0, none⟩) 0 0)) (some 15) (.slice C3 g.glo.length d3)) (some 16) (.slice (some ⟨e13, 0, none⟩) 0 0)) (some 20) (.slice (some ⟨e17, 0, none⟩) 0 0)) U := by
    clear HA1 hS
    rintro C0 d0 C2 d2 C3 d3 e5 e9 e13 e17 L U rfl HA HF0 HF2 HF3
    have hS := HCELL.out _ HA.out.box
    try simp only [Act.put, List.setIfInBounds_toArray, List.set_cons_zero, List.set_cons_succ]
    refine wpAnyH_ready (rs := [16]) (by kernel_rfl) (by simp) ?_
    refine AllReadyH.cons (o := _) rfl (fun K' hK => ?_) (AllReadyH.nil)
    refine step_app_e kO rfl (.tmp 16) (.tmp 18) rfl e13 (by kernel_rfl) p.A4 p.c4 g.els (by kernel_rfl) w.heap.size (bools_lead (HST.out.l.els.below HA.out.b)) HST.out.r.e0 (by have := HFI.out; omega) ?_
    intro C4 d4 V hn hbel
    have HA' := Lib.hid (HA.out.next hbel)
    replace HF0 := Lib.hid (HF0.out.keep hbel)
    replace HF2 := Lib.hid (HF2.out.keep hbel)
    replace HF3 := Lib.hid (HF3.out.keep hbel)
    have HF4 : Hid (NewS kO (w.heap.size + 2) V C4 d4 g.els) := Lib.hid (hn.base (by have := HA.out.res.lt; omega))
    clear hn hbel
    refine hK.out _ _ (HCELL.out _ HA'.out.box) (fun hS => ?_)
    try simp only [Act.put, List.setIfInBounds_toArray, List.set_cons_zero, List.set_cons_succ]
    exact K4_1111 C0 d0 C2 d2 C3 d3 C4 d4 e5 e9 e13 e17 _ _ (by kernel_rfl) HA' HF0 HF2 HF3 HF4
  try simp only [Act.put, List.setIfInBounds_toArray, List.set_cons_zero, List.set_cons_succ] at K3_1111
  have K3_1101 : ∀ (C0 : Option Addr) (d0 : Nat) (C2 : Option Addr) (d2 : Nat) (C3 : Option Addr) (d3 : Nat) (e5 : Nat) (e9 : Nat) (e17 : Nat) (L : Array Bool) (U : World), L = #[true, true, true, true, true, true, true, true, true, true, true, true, true, false, true, true, false, true, true, true, false, false, false] → Hid (AN w U w.heap.size p g) → Hid (NewS kB (w.heap.size + 2) U C0 d0 g.mem) → Hid (NewS kI (w.heap.size + 2) U C2 d2 g.tab) → Hid (NewS kN (w.heap.size + 2) U C3 d3 g.glo) → wpAnyH ?xP ?xM ?xO ?xQ ?xS 5 L (Act.put (Act.put (Act.put (Act.put (Act.put (Act.put ?xA (some 5) (.slice C0 g.mem.length d0)) (some 8) (.slice (some ⟨e5, 0, none⟩) 0 0)) (some 11) (.slice C2 g.tab.length d2)) (some 12) (.slice (some ⟨e9, 0, none⟩) 0 0)) (some 15) (.slice C3 g.glo.length d3)) (some 20) (.slice (some ⟨e17, 0, none⟩) 0 0)) U := by
    clear HA1 hS
    rintro C0 d0 C2 d2 C3 d3 e5 e9 e17 L U rfl HA HF0 HF2 HF3
    have hS := HCELL.out _ HA.out.box
    try simp only [Act.put, List.setIfInBounds_toArray, List.set_cons_zero, List.set_cons_succ]
    refine wpAnyH_ready (rs := [13]) (by kernel_rfl) (by simp) ?_
    refine AllReadyH.cons (o := _) rfl (fun K' hK => ?_) (AllReadyH.nil)
    go_simp
    have HA' := Lib.hid (HA.out.next ((Below.refl U.heap.size U).alloc (Nat.le_refl _) (.cells #[] 4)))
    replace HF0 := Lib.hid (HF0.out.keep ((Below.refl U.heap.size U).alloc (Nat.le_refl _) (.cells #[] 4)))
    replace HF2 := Lib.hid (HF2.out.keep ((Below.refl U.heap.size U).alloc (Nat.le_refl _) (.cells #[] 4)))
    replace HF3 := Lib.hid (HF3.out.keep ((Below.refl U.heap.size U).alloc (Nat.le_refl _) (.cells #[] 4)))
    refine hK.out _ _ (HCELL.out _ HA'.out.box) (fun hS => ?_)
    try simp only [Act.put, List.setIfInBounds_toArray, List.set_cons_zero, List.set_cons_succ]
    exact K3_1111 C0 d0 C2 d2 C3 d3 e5 e9 U.heap.size e17 _ _ (by kernel_rfl) HA' HF0 HF2 HF3
  try simp only [Act.put, List.setIfInBounds_toArray, List.set_cons_zero, List.set_cons_succ] at K3_1101
  have K3_1110 : ∀ (C0 : Option Addr) (d0 : Nat) (C2 : Option Addr) (d2 : Nat) (C3 : Option Addr) (d3 : Nat) (e5 : Nat) (e9 : Nat) (e13 : Nat) (L : Array Bool) (U : World), L = #[true, true, true, true, true, true, true, true, true, true, true, true, true, true, true, true, false, false, true, true, false, false, false] → Hid (AN w U w.heap.size p g) → Hid (NewS kB (w.heap.size + 2) U C0 d0 g.mem) → Hid (NewS kI (w.heap.size + 2) U C2 d2 g.tab) → Hid (NewS kN (w.heap.size + 2) U C3 d3 g.glo) → wpAnyH ?xP ?xM ?xO ?xQ ?xS 5 L (Act.put (Act.put (Act.put (Act.put (Act.put (Act.put ?xA (some 5) (.slice C0 g.mem.length d0)) (some 8) (.slice (some ⟨e5, 0, none⟩) 0 0)) (some 11) (.slice C2 g.tab.length d2)) (some 12) (.slice (some ⟨e9, 0, none⟩) 0 0)) (some 15) (.slice C3 g.glo.length d3)) (some 16) (.slice (some ⟨e13, 0, none⟩) 0 0)) U := by
    clear HA1 hS
    rintro C0 d0 C2 d2 C3 d3 e5 e9 e13 L U rfl HA HF0 HF2 HF3
    have hS := HCELL.out _ HA.out.box
    try simp only [Act.put, List.setIfInBounds_toArray, List.set_cons_zero, List.set_cons_succ]
    refine wpAnyH_ready (rs := [16, 17]) (by kernel_rfl) (by simp) ?_
    refine AllReadyH.cons (o := _) rfl (fun K' hK => ?_) (AllReadyH.cons (o := _) rfl (fun K' hK => ?_) (AllReadyH.nil))
    · refine step_app_e kO rfl (.tmp 16) (.tmp 18) rfl e13 (by kernel_rfl) p.A4 p.c4 g.els (by kernel_rfl) w.heap.size (bools_lead (HST.out.l.els.below HA.out.b)) HST.out.r.e0 (by have := HFI.out; omega) ?_
      intro C4 d4 V hn hbel
      have HA' := Lib.hid (HA.out.next hbel)
      replace HF0 := Lib.hid (HF0.out.keep hbel)
      replace HF2 := Lib.hid (HF2.out.keep hbel)
      replace HF3 := Lib.hid (HF3.out.keep hbel)
      have HF4 : Hid (NewS kO (w.heap.size + 2) V C4 d4 g.els) := Lib.hid (hn.base (by have := HA.out.res.lt; omega))
      clear hn hbel
      refine hK.out _ _ (HCELL.out _ HA'.out.box) (fun hS => ?_)
      try simp only [Act.put, List.setIfInBounds_toArray, List.set_cons_zero, List.set_cons_succ]
      exact K4_1110 C0 d0 C2 d2 C3 d3 C4 d4 e5 e9 e13 _ _ (by kernel_rfl) HA' HF0 HF2 HF3 HF4
    · go_simp
      have HA' := Lib.hid (HA.out.next ((Below.refl U.heap.size U).alloc (Nat.le_refl _) (.cells #[] 4)))
      replace HF0 := Lib.hid (HF0.out.keep ((Below.refl U.heap.size U).alloc (Nat.le_refl _) (.cells #[] 4)))
      replace HF2 := Lib.hid (HF2.out.keep ((Below.refl U.heap.size U).alloc (Nat.le_refl _) (.cells #[] 4)))
      replace HF3 := Lib.hid (HF3.out.keep ((Below.refl U.heap.size U).alloc (Nat.le_refl _) (.cells #[] 4)))
      refine hK.out _ _ (HCELL.out _ HA'.out.box) (fun hS => ?_)
      try simp only [Act.put, List.setIfInBounds_toArray, List.set_cons_zero, List.set_cons_succ]
      exact K3_1111 C0 d0 C2 d2 C3 d3 e5 e9 e13 U.heap.size _ _ (by kernel_rfl) HA' HF0 HF2 HF3
  try simp only [Act.put, List.setIfInBounds_toArray, List.set_cons_zero, List.set_cons_succ] at K3_1110
  have K3_1100 : ∀ (C0 : Option Addr) (d0 : Nat) (C2 : Option Addr) (d2 : Nat) (C3 : Option Addr) (d3 : Nat) (e5 : Nat) (e9 : Nat) (L : Array Bool) (U : World), L = #[true, true, true, true, true, true, true, true, true, true, true, true, true, false, true, true, false, false, true, true, false, false, false] → Hid (AN w U w.heap.size p g) → Hid (NewS kB (w.heap.size + 2) U C0 d0 g.mem) → Hid (NewS kI (w.heap.size + 2) U C2 d2 g.tab) → Hid (NewS kN (w.heap.size + 2) U C3 d3 g.glo) → wpAnyH ?xP ?xM ?xO ?xQ ?xS 6 L (Act.put (Act.put (Act.put (Act.put (Act.put ?xA (some 5) (.slice C0 g.mem.length d0)) (some 8) (.slice (some ⟨e5, 0, none⟩) 0 0)) (some 11) (.slice C2 g.tab.length d2)) (some 12) (.slice (some ⟨e9, 0, none⟩) 0 0)) (some 15) (.slice C3 g.glo.length d3)) U := by
    clear HA1 hS
    rintro C0 d0 C2 d2 C3 d3 e5 e9 L U rfl HA HF0 HF2 HF3
    have hS := HCELL.out _ HA.out.box
    try simp only [Act.put, List.setIfInBounds_toArray, List.set_cons_zero, List.set_cons_succ]
    refine wpAnyH_ready (rs := [13, 17]) (by kernel_rfl) (by simp) ?_
    refine AllReadyH.cons (o := _) rfl (fun K' hK => ?_) (AllReadyH.cons (o := _) rfl (fun K' hK => ?_) (AllReadyH.nil))
    · go_simp
      have HA' := Lib.hid (HA.out.next ((Below.refl U.heap.size U).alloc (Nat.le_refl _) (.cells #[] 4)))
      replace HF0 := Lib.hid (HF0.out.keep ((Below.refl U.heap.size U).alloc (Nat.le_refl _) (.cells #[] 4)))
      replace HF2 := Lib.hid (HF2.out.keep ((Below.refl U.heap.size U).alloc (Nat.le_refl _) (.cells #[] 4)))
      replace HF3 := Lib.hid (HF3.out.keep ((Below.refl U.heap.size U).alloc (Nat.le_refl _) (.cells #[] 4)))
      refine hK.out _ _ (HCELL.out _ HA'.out.box) (fun hS => ?_)
      try simp only [Act.put, List.setIfInBounds_toArray, List.set_cons_zero, List.set_cons_succ]
      exact K3_1110 C0 d0 C2 d2 C3 d3 e5 e9 U.heap.size _ _ (by kernel_rfl) HA' HF0 HF2 HF3
    · go_simp
      have HA' := Lib.hid (HA.out.next ((Below.refl U.heap.size U).alloc (Nat.le_refl _) (.cells #[] 4)))
      replace HF0 := Lib.hid (HF0.out.keep ((Below.refl U.heap.size U).alloc (Nat.le_refl _) (.cells #[] 4)))
      replace HF2 := Lib.hid (HF2.out.keep ((Below.refl U.heap.size U).alloc (Nat.le_refl _) (.cells #[] 4)))
      replace HF3 := Lib.hid (HF3.out.keep ((Below.refl U.heap.size U).alloc (Nat.le_refl _) (.cells #[] 4)))
      refine hK.out _ _ (HCELL.out _ HA'.out.box) (fun hS => ?_)
      try simp only [Act.put, List.setIfInBounds_toArray, List.set_cons_zero, List.set_cons_succ]
      exact K3_1101 C0 d0 C2 d2 C3 d3 e5 e9 U.heap.size _ _ (by kernel_rfl) HA' HF0 HF2 HF3
  try simp only [Act.put, List.setIfInBounds_toArray, List.set_cons_zero, List.set_cons_succ] at K3_1100
  have K2_1111 : ∀ (C0 : Option Addr) (d0 : Nat) (C2 : Option Addr) (d2 : Nat) (e5 : Nat) (e9 : Nat) (e13 : Nat) (e17 : Nat) (L : Array Bool) (U : World), L = #[true, true, true, true, true, true, true, true, true, true, true, true, false, true, true, true, false, true, true, true, false, false, false] → Hid (AN w U w.heap.size p g) → Hid (NewS kB (w.heap.size + 2) U C0 d0 g.mem) → Hid (NewS kI (w.heap.size + 2) U C2 d2 g.tab) → wpAnyH ?xP ?xM ?xO ?xQ ?xS 5 L (Act.put (Act.put (Act.put (Act.put (Act.put (Act.put ?xA (some 5) (.slice C0 g.mem.length d0)) (some 8) (.slice (some ⟨e5, 0, none⟩) 0 0)) (some 11) (.slice C2 g.tab.length d2)) (some 12) (.slice (some ⟨e9, 0, none⟩) 0 0)) (some 16) (.slice (some ⟨e13, 0, none⟩) 0 0)) (some 20) (.slice (some ⟨e17, 0, none⟩) 0 0)) U := by
    clear HA1 hS
    rintro C0 d0 C2 d2 e5 e9 e13 e17 L U rfl HA HF0 HF2
    have hS := HCELL.out _ HA.out.box
    try simp only [Act.put, List.setIfInBounds_toArray, List.set_cons_zero, List.set_cons_succ]
    refine wpAnyH_ready (rs := [12]) (by kernel_rfl) (by simp) ?_
    refine AllReadyH.cons (o := _) rfl (fun K' hK => ?_) (AllReadyH.nil)
    refine step_app_e kN rfl (.tmp 12) (.tmp 14) rfl e9 (by kernel_rfl) p.A3 p.c3 g.glo (by kernel_rfl) w.heap.size (nums_lead (HST.out.l.glo.below HA.out.b)) HST.out.r.n0 (by have := HFI.out; omega) ?_
    intro C3 d3 V hn hbel
    have HA' := Lib.hid (HA.out.next hbel)
    replace HF0 := Lib.hid (HF0.out.keep hbel)
    replace HF2 := Lib.hid (HF2.out.keep hbel)
    have HF3 : Hid (NewS kN (w.heap.size + 2) V C3 d3 g.glo) := Lib.hid (hn.base (by have := HA.out.res.lt; omega))
    clear hn hbel
    refine hK.out _ _ (HCELL.out _ HA'.out.box) (fun hS => ?_)
    try simp only [Act.put, List.setIfInBounds_toArray, List.set_cons_zero, List.set_cons_succ]
    exact K3_1111 C0 d0 C2 d2 C3 d3 e5 e9 e13 e17 _ _ (by kernel_rfl) HA' HF0 HF2 HF3
  try simp only [Act.put, List.setIfInBounds_toArray, List.set_cons_zero, List.set_cons_succ] at K2_1111
  have K2_1011 : ∀ (C0 : Option Addr) (d0 : Nat) (C2 : Option Addr) (d2 : Nat) (e5 : Nat) (e13 : Nat) (e17 : Nat) (L : Array Bool) (U : World), L = #[true, true, true, true, true, true, true, true, true, false, true, true, false, true, true, true, false, true, true, true, false, false, false] → Hid (AN w U w.heap.size p g) → Hid (NewS kB (w.heap.size + 2) U C0 d0 g.mem) → Hid (NewS kI (w.heap.size + 2) U C2 d2 g.tab) → wpAnyH ?xP ?xM ?xO ?xQ ?xS 6 L (Act.put (Act.put (Act.put (Act.put (Act.put ?xA (some 5) (.slice C0 g.mem.length d0)) (some 8) (.slice (some ⟨e5, 0, none⟩) 0 0)) (some 11) (.slice C2 g.tab.length d2)) (some 16) (.slice (some ⟨e13, 0, none⟩) 0 0)) (some 20) (.slice (some ⟨e17, 0, none⟩) 0 0)) U := by
    clear HA1 hS
    rintro C0 d0 C2 d2 e5 e13 e17 L U rfl HA HF0 HF2
    have hS := HCELL.out _ HA.out.box
    try simp only [Act.put, List.setIfInBounds_toArray, List.set_cons_zero, List.set_cons_succ]
    refine wpAnyH_ready (rs := [9]) (by kernel_rfl) (by simp) ?_
    refine AllReadyH.cons (o := _) rfl (fun K' hK => ?_) (AllReadyH.nil)
    go_simp
    have HA' := Lib.hid (HA.out.next ((Below.refl U.heap.size U).alloc (Nat.le_refl _) (.cells #[] 28)))
    replace HF0 := Lib.hid (HF0.out.keep ((Below.refl U.heap.size U).alloc (Nat.le_refl _) (.cells #[] 28)))
    replace HF2 := Lib.hid (HF2.out.keep ((Below.refl U.heap.size U).alloc (Nat.le_refl _) (.cells #[] 28)))
    refine hK.out _ _ (HCELL.out _ HA'.out.box) (fun hS => ?_)
    try simp only [Act.put, List.setIfInBounds_toArray, List.set_cons_zero, List.set_cons_succ]
    exact K2_1111 C0 d0 C2 d2 e5 U.heap.size e13 e17 _ _ (by kernel_rfl) HA' HF0 HF2
  try simp only [Act.put, List.setIfInBounds_toArray, List.set_cons_zero, List.set_cons_succ] at K2_1011
  have K2_1101 : ∀ (C0 : Option Addr) (d0 : Nat) (C2 : Option Addr) (d2 : Nat) (e5 : Nat) (e9 : Nat) (e17 : Nat) (L : Array Bool) (U : World), L = #[true, true, true, true, true, true, true, true, true, true, true, true, false, false, true, true, false, true, true, true, false, false, false] → Hid (AN w U w.heap.size p g) → Hid (NewS kB (w.heap.size + 2) U C0 d0 g.mem) → Hid (NewS kI (w.heap.size + 2) U C2 d2 g.tab) → wpAnyH ?xP ?xM ?xO ?xQ ?xS 6 L (Act.put (Act.put (Act.put (Act.put (Act.put ?xA (some 5) (.slice C0 g.mem.length d0)) (some 8) (.slice (some ⟨e5, 0, none⟩) 0 0)) (some 11) (.slice C2 g.tab.length d2)) (some 12) (.slice (some ⟨e9, 0, none⟩) 0 0)) (some 20) (.slice (some ⟨e17, 0, none⟩) 0 0)) U := by
    clear HA1 hS
    rintro C0 d0 C2 d2 e5 e9 e17 L U rfl HA HF0 HF2
    have hS := HCELL.out _ HA.out.box
    try simp only [Act.put, List.setIfInBounds_toArray, List.set_cons_zero, List.set_cons_succ]
    refine wpAnyH_ready (rs := [12, 13]) (by kernel_rfl) (by simp) ?_
    refine AllReadyH.cons (o := _) rfl (fun K' hK => ?_) (AllReadyH.cons (o := _) rfl (fun K' hK => ?_) (AllReadyH.nil))
    · refine step_app_e kN rfl (.tmp 12) (.tmp 14) rfl e9 (by kernel_rfl) p.A3 p.c3 g.glo (by kernel_rfl) w.heap.size (nums_lead (HST.out.l.glo.below HA.out.b)) HST.out.r.n0 (by have := HFI.out; omega) ?_
      intro C3 d3 V hn hbel
      have HA' := Lib.hid (HA.out.next hbel)
      replace HF0 := Lib.hid (HF0.out.keep hbel)
      replace HF2 := Lib.hid (HF2.out.keep hbel)
      have HF3 : Hid (NewS kN (w.heap.size + 2) V C3 d3 g.glo) := Lib.hid (hn.base (by have := HA.out.res.lt; omega))
      clear hn hbel
      refine hK.out _ _ (HCELL.out _ HA'.out.box) (fun hS => ?_)
      try simp only [Act.put, List.setIfInBounds_toArray, List.set_cons_zero, List.set_cons_succ]
      exact K3_1101 C0 d0 C2 d2 C3 d3 e5 e9 e17 _ _ (by kernel_rfl) HA' HF0 HF2 HF3
    · go_simp
      have HA' := Lib.hid (HA.out.next ((Below.refl U.heap.size U).alloc (Nat.le_refl _) (.cells #[] 4)))
      replace HF0 := Lib.hid (HF0.out.keep ((Below.refl U.heap.size U).alloc (Nat.le_refl _) (.cells #[] 4)))
      replace HF2 := Lib.hid (HF2.out.keep ((Below.refl U.heap.size U).alloc (Nat.le_refl _) (.cells #[] 4)))
      refine hK.out _ _ (HCELL.out _ HA'.out.box) (fun hS => ?_)
      try simp only [Act.put, List.setIfInBounds_toArray, List.set_cons_zero, List.set_cons_succ]
      exact K2_1111 C0 d0 C2 d2 e5 e9 U.heap.size e17 _ _ (by kernel_rfl) HA' HF0 HF2
  try simp only [Act.put, List.setIfInBounds_toArray, List.set_cons_zero, List.set_cons_succ] at K2_1101
  have K2_1110 : ∀ (C0 : Option Addr) (d0 : Nat) (C2 : Option Addr) (d2 : Nat) (e5 : Nat) (e9 : Nat) (e13 : Nat) (L : Array Bool) (U : World), L = #[true, true, true, true, true, true, true, true, true, true, true, true, false, true, true, true, false, false, true, true, false, false, false] → Hid (AN w U w.heap.size p g) → Hid (NewS kB (w.heap.size + 2) U C0 d0 g.mem) → Hid (NewS kI (w.heap.size + 2) U C2 d2 g.tab) → wpAnyH ?xP ?xM ?xO ?xQ ?xS 6 L (Act.put (Act.put (Act.put (Act.put (Act.put ?xA (some 5) (.slice C0 g.mem.length d0)) (some 8) (.slice (some ⟨e5, 0, none⟩) 0 0)) (some 11) (.slice C2 g.tab.length d2)) (some 12) (.slice (some ⟨e9, 0, none⟩) 0 0)) (some 16) (.slice (some ⟨e13, 0, none⟩) 0 0)) U := by
    clear HA1 hS
    rintro C0 d0 C2 d2 e5 e9 e13 L U rfl HA HF0 HF2
    have hS := HCELL.out _ HA.out.box
    try simp only [Act.put, List.setIfInBounds_toArray, List.set_cons_zero, List.set_cons_succ]
    refine wpAnyH_ready (rs := [12, 17]) (by kernel_rfl) (by simp) ?_
    refine AllReadyH.cons (o := _) rfl (fun K' hK => ?_) (AllReadyH.cons (o := _) rfl (fun K' hK => ?_) (AllReadyH.nil))
    · refine step_app_e kN rfl (.tmp 12) (.tmp 14) rfl e9 (by kernel_rfl) p.A3 p.c3 g.glo (by kernel_rfl) w.heap.size (nums_lead (HST.out.l.glo.below HA.out.b)) HST.out.r.n0 (by have := HFI.out; omega) ?_
      intro C3 d3 V hn hbel
      have HA' := Lib.hid (HA.out.next hbel)
      replace HF0 := Lib.hid (HF0.out.keep hbel)
      replace HF2 := Lib.hid (HF2.out.keep hbel)
      have HF3 : Hid (NewS kN (w.heap.size + 2) V C3 d3 g.glo) := Lib.hid (hn.base (by have := HA.out.res.lt; omega))
      clear hn hbel
      refine hK.out _ _ (HCELL.out _ HA'.out.box) (fun hS => ?_)
      try simp only [Act.put, List.setIfInBounds_toArray, List.set_cons_zero, List.set_cons_succ]
      exact K3_1110 C0 d0 C2 d2 C3 d3 e5 e9 e13 _ _ (by kernel_rfl) HA' HF0 HF2 HF3
    · go_simp
      have HA' := Lib.hid (HA.out.next ((Below.refl U.heap.size U).alloc (Nat.le_refl _) (.cells #[] 4)))
      replace HF0 := Lib.hid (HF0.out.keep ((Below.refl U.heap.size U).alloc (Nat.le_refl _) (.cells #[] 4)))
      replace HF2 := Lib.hid (HF2.out.keep ((Below.refl U.heap.size U).alloc (Nat.le_refl _) (.cells #[] 4)))
      refine hK.out _ _ (HCELL.out _ HA'.out.box) (fun hS => ?_)
      try simp only [Act.put, List.setIfInBounds_toArray, List.set_cons_zero, List.set_cons_succ]
      exact K2_1111 C0 d0 C2 d2 e5 e9 e13 U.heap.size _ _ (by kernel_rfl) HA' HF0 HF2
  try simp only [Act.put, List.setIfInBounds_toArray, List.set_cons_zero, List.set_cons_succ] at K2_1110
  have K2_1001 : ∀ (C0 : Option Addr) (d0 : Nat) (C2 : Option Addr) (d2 : Nat) (e5 : Nat) (e17 : Nat) (L : Array Bool) (U : World), L = #[true, true, true, true, true, true, true, true, true, false, true, true, false, false, true, true, false, true, true, true, false, false, false] → Hid (AN w U w.heap.size p g) → Hid (NewS kB (w.heap.size + 2) U C0 d0 g.mem) → Hid (NewS kI (w.heap.size + 2) U C2 d2 g.tab) → wpAnyH ?xP ?xM ?xO ?xQ ?xS 7 L (Act.put (Act.put (Act.put (Act.put ?xA (some 5) (.slice C0 g.mem.length d0)) (some 8) (.slice (some ⟨e5, 0, none⟩) 0 0)) (some 11) (.slice C2 g.tab.length d2)) (some 20) (.slice (some ⟨e17, 0, none⟩) 0 0)) U := by
    clear HA1 hS
    rintro C0 d0 C2 d2 e5 e17 L U rfl HA HF0 HF2
    have hS := HCELL.out _ HA.out.box
    try simp only [Act.put, List.setIfInBounds_toArray, List.set_cons_zero, List.set_cons_succ]
    refine wpAnyH_ready (rs := [9, 13]) (by kernel_rfl) (by simp) ?_
    refine AllReadyH.cons (o := _) rfl (fun K' hK => ?_) (AllReadyH.cons (o := _) rfl (fun K' hK => ?_) (AllReadyH.nil))
    · go_simp
      have HA' := Lib.hid (HA.out.next ((Below.refl U.heap.size U).alloc (Nat.le_refl _) (.cells #[] 28)))
      replace HF0 := Lib.hid (HF0.out.keep ((Below.refl U.heap.size U).alloc (Nat.le_refl _) (.cells #[] 28)))
      replace HF2 := Lib.hid (HF2.out.keep ((Below.refl U.heap.size U).alloc (Nat.le_refl _) (.cells #[] 28)))
      refine hK.out _ _ (HCELL.out _ HA'.out.box) (fun hS => ?_)
      try simp only [Act.put, List.setIfInBounds_toArray, List.set_cons_zero, List.set_cons_succ]
      exact K2_1101 C0 d0 C2 d2 e5 U.heap.size e17 _ _ (by kernel_rfl) HA' HF0 HF2
    · go_simp
      have HA' := Lib.hid (HA.out.next ((Below.refl U.heap.size U).alloc (Nat.le_refl _) (.cells #[] 4)))
      replace HF0 := Lib.hid (HF0.out.keep ((Below.refl U.heap.size U).alloc (Nat.le_refl _) (.cells #[] 4)))
      replace HF2 := Lib.hid (HF2.out.keep ((Below.refl U.heap.size U).alloc (Nat.le_refl _) (.cells #[] 4)))
      refine hK.out _ _ (HCELL.out _ HA'.out.box) (fun hS => ?_)
      try simp only [Act.put, List.setIfInBounds_toArray, List.set_cons_zero, List.set_cons_succ]
      exact K2_1011 C0 d0 C2 d2 e5 U.heap.size e17 _ _ (by kernel_rfl) HA' HF0 HF2
  try simp only [Act.put, List.setIfInBounds_toArray, List.set_cons_zero, List.set_cons_succ] at K2_1001
  have K2_1010 : ∀ (C0 : Option Addr) (d0 : Nat) (C2 : Option Addr) (d2 : Nat) (e5 : Nat) (e13 : Nat) (L : Array Bool) (U : World), L = #[true, true, true, true, true, true, true, true, true, false, true, true, false, true, true, true, false, false, true, true, false, false, false] → Hid (AN w U w.heap.size p g) → Hid (NewS kB (w.heap.size + 2) U C0 d0 g.mem) → Hid (NewS kI (w.heap.size + 2) U C2 d2 g.tab) → wpAnyH ?xP ?xM ?xO ?xQ ?xS 7 L (Act.put (Act.put (Act.put (Act.put ?xA (some 5) (.slice C0 g.mem.length d0)) (some 8) (.slice (some ⟨e5, 0, none⟩) 0 0)) (some 11) (.slice C2 g.tab.length d2)) (some 16) (.slice (some ⟨e13, 0, none⟩) 0 0)) U := by
    clear HA1 hS
    rintro C0 d0 C2 d2 e5 e13 L U rfl HA HF0 HF2
    have hS := HCELL.out _ HA.out.box
    try simp only [Act.put, List.setIfInBounds_toArray, List.set_cons_zero, List.set_cons_succ]
    refine wpAnyH_ready (rs := [9, 17]) (by kernel_rfl) (by simp) ?_
    refine AllReadyH.cons (o := _) rfl (fun K' hK => ?_) (AllReadyH.cons (o := _) rfl (fun K' hK => ?_) (AllReadyH.nil))
    · go_simp
      have HA' := Lib.hid (HA.out.next ((Below.refl U.heap.size U).alloc (Nat.le_refl _) (.cells #[] 28)))
      replace HF0 := Lib.hid (HF0.out.keep ((Below.refl U.heap.size U).alloc (Nat.le_refl _) (.cells #[] 28)))
      replace HF2 := Lib.hid (HF2.out.keep ((Below.refl U.heap.size U).alloc (Nat.le_refl _) (.cells #[] 28)))
      refine hK.out _ _ (HCELL.out _ HA'.out.box) (fun hS => ?_)
      try simp only [Act.put, List.setIfInBounds_toArray, List.set_cons_zero, List.set_cons_succ]
      exact K2_1110 C0 d0 C2 d2 e5 U.heap.size e13 _ _ (by kernel_rfl) HA' HF0 HF2
    · go_simp
      have HA' := Lib.hid (HA.out.next ((Below.refl U.heap.size U).alloc (Nat.le_refl _) (.cells #[] 4)))
      replace HF0 := Lib.hid (HF0.out.keep ((Below.refl U.heap.size U).alloc (Nat.le_refl _) (.cells #[] 4)))
      replace HF2 := Lib.hid (HF2.out.keep ((Below.refl U.heap.size U).alloc (Nat.le_refl _) (.cells #[] 4)))
      refine hK.out _ _ (HCELL.out _ HA'.out.box) (fun hS => ?_)
      try simp only [Act.put, List.setIfInBounds_toArray, List.set_cons_zero, List.set_cons_succ]
      exact K2_1011 C0 d0 C2 d2 e5 e13 U.heap.size _ _ (by kernel_rfl) HA' HF0 HF2
  try simp only [Act.put, List.setIfInBounds_toArray, List.set_cons_zero, List.set_cons_succ] at K2_1010
  have K2_1100 : ∀ (C0 : Option Addr) (d0 : Nat) (C2 : Option Addr) (d2 : Nat) (e5 : Nat) (e9 : Nat) (L : Array Bool) (U : World), L = #[true, true, true, true, true, true, true, true, true, true, true, true, false, false, true, true, false, false, true, true, false, false, false] → Hid (AN w U w.heap.size p g) → Hid (NewS kB (w.heap.size + 2) U C0 d0 g.mem) → Hid (NewS kI (w.heap.size + 2) U C2 d2 g.tab) → wpAnyH ?xP ?xM ?xO ?xQ ?xS 7 L (Act.put (Act.put (Act.put (Act.put ?xA (some 5) (.slice C0 g.mem.length d0)) (some 8) (.slice (some ⟨e5, 0, none⟩) 0 0)) (some 11) (.slice C2 g.tab.length d2)) (some 12) (.slice (some ⟨e9, 0, none⟩) 0 0)) U := by
    clear HA1 hS
    rintro C0 d0 C2 d2 e5 e9 L U rfl HA HF0 HF2
    have hS := HCELL.out _ HA.out.box
    try simp only [Act.put, List.setIfInBounds_toArray, List.set_cons_zero, List.set_cons_succ]
    refine wpAnyH_ready (rs := [12, 13, 17]) (by kernel_rfl) (by simp) ?_
    refine AllReadyH.cons (o := _) rfl (fun K' hK => ?_) (AllReadyH.cons (o := _) rfl (fun K' hK => ?_) (AllReadyH.cons (o := _) rfl (fun K' hK => ?_) (AllReadyH.nil)))
    · refine step_app_e kN rfl (.tmp 12) (.tmp 14) rfl e9 (by kernel_rfl) p.A3 p.c3 g.glo (by kernel_rfl) w.heap.size (nums_lead (HST.out.l.glo.below HA.out.b)) HST.out.r.n0 (by have := HFI.out; omega) ?_
      intro C3 d3 V hn hbel
      have HA' := Lib.hid (HA.out.next hbel)
      replace HF0 := Lib.hid (HF0.out.keep hbel)
      replace HF2 := Lib.hid (HF2.out.keep hbel)
      have HF3 : Hid (NewS kN (w.heap.size + 2) V C3 d3 g.glo) := Lib.hid (hn.base (by have := HA.out.res.lt; omega))
      clear hn hbel
      refine hK.out _ _ (HCELL.out _ HA'.out.box) (fun hS => ?_)
      try simp only [Act.put, List.setIfInBounds_toArray, List.set_cons_zero, List.set_cons_succ]
      exact K3_1100 C0 d0 C2 d2 C3 d3 e5 e9 _ _ (by kernel_rfl) HA' HF0 HF2 HF3
    · go_simp
      have HA' := Lib.hid (HA.out.next ((Below.refl U.heap.size U).alloc (Nat.le_refl _) (.cells #[] 4)))
      replace HF0 := Lib.hid (HF0.out.keep ((Below.refl U.heap.size U).alloc (Nat.le_refl _) (.cells #[] 4)))
      replace HF2 := Lib.hid (HF2.out.keep ((Below.refl U.heap.size U).alloc (Nat.le_refl _) (.cells #[] 4)))
      refine hK.out _ _ (HCELL.out _ HA'.out.box) (fun hS => ?_)
      try simp only [Act.put, List.setIfInBounds_toArray, List.set_cons_zero, List.set_cons_succ]
      exact K2_1110 C0 d0 C2 d2 e5 e9 U.heap.size _ _ (by kernel_rfl) HA' HF0 HF2
    · go_simp
      have HA' := Lib.hid (HA.out.next ((Below.refl U.heap.size U).alloc (Nat.le_refl _) (.cells #[] 4)))
      replace HF0 := Lib.hid (HF0.out.keep ((Below.refl U.heap.size U).alloc (Nat.le_refl _) (.cells #[] 4)))
      replace HF2 := Lib.hid (HF2.out.keep ((Below.refl U.heap.size U).alloc (Nat.le_refl _) (.cells #[] 4)))
      refine hK.out _ _ (HCELL.out _ HA'.out.box) (fun hS => ?_)
      try simp only [Act.put, List.setIfInBounds_toArray, List.set_cons_zero, List.set_cons_succ]
      exact K2_1101 C0 d0 C2 d2 e5 e9 U.heap.size _ _ (by kernel_rfl) HA' HF0 HF2
  try simp only [Act.put, List.setIfInBounds_toArray, List.set_cons_zero, List.set_cons_succ] at K2_1100
  have K2_1000 : ∀ (C0 : Option Addr) (d0 : Nat) (C2 : Option Addr) (d2 : Nat) (e5 : Nat) (L : Array Bool) (U : World), L = #[true, true, true, true, true, true, true, true, true, false, true, true, false, false, true, true, false, false, true, true, false, false, false] → Hid (AN w U w.heap.size p g) → Hid (NewS kB (w.heap.size + 2) U C0 d0 g.mem) → Hid (NewS kI (w.heap.size + 2) U C2 d2 g.tab) → wpAnyH ?xP ?xM ?xO ?xQ ?xS 8 L (Act.put (Act.put (Act.put ?xA (some 5) (.slice C0 g.mem.length d0)) (some 8) (.slice (some ⟨e5, 0, none⟩) 0 0)) (some 11) (.slice C2 g.tab.length d2)) U := by
    clear HA1 hS
    rintro C0 d0 C2 d2 e5 L U rfl HA HF0 HF2
    have hS := HCELL.out _ HA.out.box
    try simp only [Act.put, List.setIfInBounds_toArray, List.set_cons_zero, List.set_cons_succ]
    refine wpAnyH_ready (rs := [9, 13, 17]) (by kernel_rfl) (by simp) ?_
    refine AllReadyH.cons (o := _) rfl (fun K' hK => ?_) (AllReadyH.cons (o := _) rfl (fun K' hK => ?_) (AllReadyH.cons (o := _) rfl (fun K' hK => ?_) (AllReadyH.nil)))
    · go_simp
      have HA' := Lib.hid (HA.out.next ((Below.refl U.heap.size U).alloc (Nat.le_refl _) (.cells #[] 28)))
      replace HF0 := Lib.hid (HF0.out.keep ((Below.refl U.heap.size U).alloc (Nat.le_refl _) (.cells #[] 28)))
      replace HF2 := Lib.hid (HF2.out.keep ((Below.refl U.heap.size U).alloc (Nat.le_refl _) (.cells #[] 28)))
      refine hK.out _ _ (HCELL.out _ HA'.out.box) (fun hS => ?_)
      try simp only [Act.put, List.setIfInBounds_toArray, List.set_cons_zero, List.set_cons_succ]
      exact K2_1100 C0 d0 C2 d2 e5 U.heap.size _ _ (by kernel_rfl) HA' HF0 HF2
    · go_simp
      have HA' := Lib.hid (HA.out.next ((Below.refl U.heap.size U).alloc (Nat.le_refl _) (.cells #[] 4)))
      replace HF0 := Lib.hid (HF0.out.keep ((Below.refl U.heap.size U).alloc (Nat.le_refl _) (.cells #[] 4)))
      replace HF2 := Lib.hid (HF2.out.keep ((Below.refl U.heap.size U).alloc (Nat.le_refl _) (.cells #[] 4)))
      refine hK.out _ _ (HCELL.out _ HA'.out.box) (fun hS => ?_)
      try simp only [Act.put, List.setIfInBounds_toArray, List.set_cons_zero, List.set_cons_succ]
      exact K2_1010 C0 d0 C2 d2 e5 U.heap.size _ _ (by kernel_rfl) HA' HF0 HF2
    · go_simp
      have HA' := Lib.hid (HA.out.next ((Below.refl U.heap.size U).alloc (Nat.le_refl _) (.cells #[] 4)))
      replace HF0 := Lib.hid (HF0.out.keep ((Below.refl U.heap.size U).alloc (Nat.le_refl _) (.cells #[] 4)))
      replace HF2 := Lib.hid (HF2.out.keep ((Below.refl U.heap.size U).alloc (Nat.le_refl _) (.cells #[] 4)))
      refine hK.out _ _ (HCELL.out _ HA'.out.box) (fun hS => ?_)
      try simp only [Act.put, List.setIfInBounds_toArray, List.set_cons_zero, List.set_cons_succ]
      exact K2_1001 C0 d0 C2 d2 e5 U.heap.size _ _ (by kernel_rfl) HA' HF0 HF2
  try simp only [Act.put, List.setIfInBounds_toArray, List.set_cons_zero, List.set_cons_succ] at K2_1000
  have K1_1111 : ∀ (C0 : Option Addr) (d0 : Nat) (e5 : Nat) (e9 : Nat) (e13 : Nat) (e17 : Nat) (L : Array Bool) (U : World), L = #[true, true, true, true, true, true, true, true, false, true, true, true, false, true, true, true, false, true, true, true, false, false, false] → Hid (AN w U w.heap.size p g) → Hid (NewS kB (w.heap.size + 2) U C0 d0 g.mem) → wpAnyH ?xP ?xM ?xO ?xQ ?xS 6 L (Act.put (Act.put (Act.put (Act.put (Act.put ?xA (some 5) (.slice C0 g.mem.length d0)) (some 8) (.slice (some ⟨e5, 0, none⟩) 0 0)) (some 12) (.slice (some ⟨e9, 0, none⟩) 0 0)) (some 16) (.slice (some ⟨e13, 0, none⟩) 0 0)) (some 20) (.slice (some ⟨e17, 0, none⟩) 0 0)) U := by
    clear HA1 hS
    rintro C0 d0 e5 e9 e13 e17 L U rfl HA HF0
    have hS := HCELL.out _ HA.out.box
    try simp only [Act.put, List.setIfInBounds_toArray, List.set_cons_zero, List.set_cons_succ]
    refine wpAnyH_ready (rs := [8]) (by kernel_rfl) (by simp) ?_
    refine AllReadyH.cons (o := _) rfl (fun K' hK => ?_) (AllReadyH.nil)
    refine step_app_e kI rfl (.tmp 8) (.tmp 10) rfl e5 (by kernel_rfl) p.A2 p.c2 g.tab (by kernel_rfl) w.heap.size (ints_lead (HST.out.l.tab.below HA.out.b)) HST.out.r.t0 (by have := HFI.out; omega) ?_
    intro C2 d2 V hn hbel
    have HA' := Lib.hid (HA.out.next hbel)
    replace HF0 := Lib.hid (HF0.out.keep hbel)
    have HF2 : Hid (NewS kI (w.heap.size + 2) V C2 d2 g.tab) := Lib.hid (hn.base (by have := HA.out.res.lt; omega))
    clear hn hbel
    refine hK.out _ _ (HCELL.out _ HA'.out.box) (fun hS => ?_)
    try simp only [Act.put, List.setIfInBounds_toArray, List.set_cons_zero, List.set_cons_succ]
    exact K2_1111 C0 d0 C2 d2 e5 e9 e13 e17 _ _ (by kernel_rfl) HA' HF0 HF2
  try simp only [Act.put, List.setIfInBounds_toArray, List.set_cons_zero, List.set_cons_succ] at K1_1111
  have K1_0111 : ∀ (C0 : Option Addr) (d0 : Nat) (e9 : Nat) (e13 : Nat) (e17 : Nat) (L : Array Bool) (U : World), L = #[true, true, true, true, true, false, true, true, false, true, true, true, false, true, true, true, false, true, true, true, false, false, false] → Hid (AN w U w.heap.size p g) → Hid (NewS kB (w.heap.size + 2) U C0 d0 g.mem) → wpAnyH ?xP ?xM ?xO ?xQ ?xS 7 L (Act.put (Act.put (Act.put (Act.put ?xA (some 5) (.slice C0 g.mem.length d0)) (some 12) (.slice (some ⟨e9, 0, none⟩) 0 0)) (some 16) (.slice (some ⟨e13, 0, none⟩) 0 0)) (some 20) (.slice (some ⟨e17, 0, none⟩) 0 0)) U := by
    clear HA1 hS
    rintro C0 d0 e9 e13 e17 L U rfl HA HF0
    have hS := HCELL.out _ HA.out.box
    try simp only [Act.put, List.setIfInBounds_toArray, List.set_cons_zero, List.set_cons_succ]
    refine wpAnyH_ready (rs := [5]) (by kernel_rfl) (by simp) ?_
    refine AllReadyH.cons (o := _) rfl (fun K' hK => ?_) (AllReadyH.nil)
    go_simp
    have HA' := Lib.hid (HA.out.next ((Below.refl U.heap.size U).alloc (Nat.le_refl _) (.cells #[] 3)))
    replace HF0 := Lib.hid (HF0.out.keep ((Below.refl U.heap.size U).alloc (Nat.le_refl _) (.cells #[] 3)))
    refine hK.out _ _ (HCELL.out _ HA'.out.box) (fun hS => ?_)
    try simp only [Act.put, List.setIfInBounds_toArray, List.set_cons_zero, List.set_cons_succ]
    exact K1_1111 C0 d0 U.heap.size e9 e13 e17 _ _ (by kernel_rfl) HA' HF0
  try simp only [Act.put, List.setIfInBounds_toArray, List.set_cons_zero, List.set_cons_succ] at K1_0111
  have K1_1011 : ∀ (C0 : Option Addr) (d0 : Nat) (e5 : Nat) (e13 : Nat) (e17 : Nat) (L : Array Bool) (U : World), L = #[true, true, true, true, true, true, true, true, false, false, true, true, false, true, true, true, false, true, true, true, false, false, false] → Hid (AN w U w.heap.size p g) → Hid (NewS kB (w.heap.size + 2) U C0 d0 g.mem) → wpAnyH ?xP ?xM ?xO ?xQ ?xS 7 L (Act.put (Act.put (Act.put (Act.put ?xA (some 5) (.slice C0 g.mem.length d0)) (some 8) (.slice (some ⟨e5, 0, none⟩) 0 0)) (some 16) (.slice (some ⟨e13, 0, none⟩) 0 0)) (some 20) (.slice (some ⟨e17, 0, none⟩) 0 0)) U := by
    clear HA1 hS
    rintro C0 d0 e5 e13 e17 L U rfl HA HF0
    have hS := HCELL.out _ HA.out.box
    try simp only [Act.put, List.setIfInBounds_toArray, List.set_cons_zero, List.set_cons_succ]
    refine wpAnyH_ready (rs := [8, 9]) (by kernel_rfl) (by simp) ?_
    refine AllReadyH.cons (o := _) rfl (fun K' hK => ?_) (AllReadyH.cons (o := _) rfl (fun K' hK => ?_) (AllReadyH.nil))
    · refine step_app_e kI rfl (.tmp 8) (.tmp 10) rfl e5 (by kernel_rfl) p.A2 p.c2 g.tab (by kernel_rfl) w.heap.size (ints_lead (HST.out.l.tab.below HA.out.b)) HST.out.r.t0 (by have := HFI.out; omega) ?_
      intro C2 d2 V hn hbel
      have HA' := Lib.hid (HA.out.next hbel)
      replace HF0 := Lib.hid (HF0.out.keep hbel)
      have HF2 : Hid (NewS kI (w.heap.size + 2) V C2 d2 g.tab) := Lib.hid (hn.base (by have := HA.out.res.lt; omega))
      clear hn hbel
      refine hK.out _ _ (HCELL.out _ HA'.out.box) (fun hS => ?_)
      try simp only [Act.put, List.setIfInBounds_toArray, List.set_cons_zero, List.set_cons_succ]
      exact K2_1011 C0 d0 C2 d2 e5 e13 e17 _ _ (by kernel_rfl) HA' HF0 HF2
    · go_simp
      have HA' := Lib.hid (HA.out.next ((Below.refl U.heap.size U).alloc (Nat.le_refl _) (.cells #[] 28)))
      replace HF0 := Lib.hid (HF0.out.keep ((Below.refl U.heap.size U).alloc (Nat.le_refl _) (.cells #[] 28)))
      refine hK.out _ _ (HCELL.out _ HA'.out.box) (fun hS => ?_)
      try simp only [Act.put, List.setIfInBounds_toArray, List.set_cons_zero, List.set_cons_succ]
      exact K1_1111 C0 d0 e5 U.heap.size e13 e17 _ _ (by kernel_rfl) HA' HF0
  try simp only [Act.put, List.setIfInBounds_toArray, List.set_cons_zero, List.set_cons_succ] at K1_1011
  have K1_1101 : ∀ (C0 : Option Addr) (d0 : Nat) (e5 : Nat) (e9 : Nat) (e17 : Nat) (L : Array Bool) (U : World), L = #[true, true, true, true, true, true, true, true, false, true, true, true, false, false, true, true, false, true, true, true, false, false, false] → Hid (AN w U w.heap.size p g) → Hid (NewS kB (w.heap.size + 2) U C0 d0 g.mem) → wpAnyH ?xP ?xM ?xO ?xQ ?xS 7 L (Act.put (Act.put (Act.put (Act.put ?xA (some 5) (.slice C0 g.mem.length d0)) (some 8) (.slice (some ⟨e5, 0, none⟩) 0 0)) (some 12) (.slice (some ⟨e9, 0, none⟩) 0 0)) (some 20) (.slice (some ⟨e17, 0, none⟩) 0 0)) U := by
    clear HA1 hS
    rintro C0 d0 e5 e9 e17 L U rfl HA HF0
    have hS := HCELL.out _ HA.out.box
    try simp only [Act.put, List.setIfInBounds_toArray, List.set_cons_zero, List.set_cons_succ]
    refine wpAnyH_ready (rs := [8, 13]) (by kernel_rfl) (by simp) ?_
    refine AllReadyH.cons (o := _) rfl (fun K' hK => ?_) (AllReadyH.cons (o := _) rfl (fun K' hK => ?_) (AllReadyH.nil))
    · refine step_app_e kI rfl (.tmp 8) (.tmp 10) rfl e5 (by kernel_rfl) p.A2 p.c2 g.tab (by kernel_rfl) w.heap.size (ints_lead (HST.out.l.tab.below HA.out.b)) HST.out.r.t0 (by have := HFI.out; omega) ?_
      intro C2 d2 V hn hbel
      have HA' := Lib.hid (HA.out.next hbel)
      replace HF0 := Lib.hid (HF0.out.keep hbel)
      have HF2 : Hid (NewS kI (w.heap.size + 2) V C2 d2 g.tab) := Lib.hid (hn.base (by have := HA.out.res.lt; omega))
      clear hn hbel
      refine hK.out _ _ (HCELL.out _ HA'.out.box) (fun hS => ?_)
      try simp only [Act.put, List.setIfInBounds_toArray, List.set_cons_zero, List.set_cons_succ]
      exact K2_1101 C0 d0 C2 d2 e5 e9 e17 _ _ (by kernel_rfl) HA' HF0 HF2
    · go_simp
      have HA' := Lib.hid (HA.out.next ((Below.refl U.heap.size U).alloc (Nat.le_refl _) (.cells #[] 4)))
      replace HF0 := Lib.hid (HF0.out.keep ((Below.refl U.heap.size U).alloc (Nat.le_refl _) (.cells #[] 4)))
      refine hK.out _ _ (HCELL.out _ HA'.out.box) (fun hS => ?_)
      try simp only [Act.put, List.setIfInBounds_toArray, List.set_cons_zero, List.set_cons_succ]
      exact K1_1111 C0 d0 e5 e9 U.heap.size e17 _ _ (by kernel_rfl) HA' HF0
  try simp only [Act.put, List.setIfInBounds_toArray, List.set_cons_zero, List.set_cons_succ] at K1_1101
  have K1_1110 : ∀ (C0 : Option Addr) (d0 : Nat) (e5 : Nat) (e9 : Nat) (e13 : Nat) (L : Array Bool) (U : World), L = #[true, true, true, true, true, true, true, true, false, true, true, true, false, true, true, true, false, false, true, true, false, false, false] → Hid (AN w U w.heap.size p g) → Hid (NewS kB (w.heap.size + 2) U C0 d0 g.mem) → wpAnyH ?xP ?xM ?xO ?xQ ?xS 7 L (Act.put (Act.put (Act.put (Act.put ?xA (some 5) (.slice C0 g.mem.length d0)) (some 8) (.slice (some ⟨e5, 0, none⟩) 0 0)) (some 12) (.slice (some ⟨e9, 0, none⟩) 0 0)) (some 16) (.slice (some ⟨e13, 0, none⟩) 0 0)) U := by
    clear HA1 hS
    rintro C0 d0 e5 e9 e13 L U rfl HA HF0
    have hS := HCELL.out _ HA.out.box
    try simp only [Act.put, List.setIfInBounds_toArray, List.set_cons_zero, List.set_cons_succ]
    refine wpAnyH_ready (rs := [8, 17]) (by kernel_rfl) (by simp) ?_
    refine AllReadyH.cons (o := _) rfl (fun K' hK => ?_) (AllReadyH.cons (o := _) rfl (fun K' hK => ?_) (AllReadyH.nil))
    · refine step_app_e kI rfl (.tmp 8) (.tmp 10) rfl e5 (by kernel_rfl) p.A2 p.c2 g.tab (by kernel_rfl) w.heap.size (ints_lead (HST.out.l.tab.below HA.out.b)) HST.out.r.t0 (by have := HFI.out; omega) ?_
      intro C2 d2 V hn hbel
      have HA' := Lib.hid (HA.out.next hbel)
      replace HF0 := Lib.hid (HF0.out.keep hbel)
      have HF2 : Hid (NewS kI (w.heap.size + 2) V C2 d2 g.tab) := Lib.hid (hn.base (by have := HA.out.res.lt; omega))
      clear hn hbel
      refine hK.out _ _ (HCELL.out _ HA'.out.box) (fun hS => ?_)
      try simp only [Act.put, List.setIfInBounds_toArray, List.set_cons_zero, List.set_cons_succ]
      exact K2_1110 C0 d0 C2 d2 e5 e9 e13 _ _ (by kernel_rfl) HA' HF0 HF2
    · go_simp
      have HA' := Lib.hid (HA.out.next ((Below.refl U.heap.size U).alloc (Nat.le_refl _) (.cells #[] 4)))
      replace HF0 := Lib.hid (HF0.out.keep ((Below.refl U.heap.size U).alloc (Nat.le_refl _) (.cells #[] 4)))
      refine hK.out _ _ (HCELL.out _ HA'.out.box) (fun hS => ?_)
      try simp only [Act.put, List.setIfInBounds_toArray, List.set_cons_zero, List.set_cons_succ]
      exact K1_1111 C0 d0 e5 e9 e13 U.heap.size _ _ (by kernel_rfl) HA' HF0
  try simp only [Act.put, List.setIfInBounds_toArray, List.set_cons_zero, List.set_cons_succ] at K1_1110
  have K1_0011 : ∀ (C0 : Option Addr) (d0 : Nat) (e13 : Nat) (e17 : Nat) (L : Array Bool) (U : World), L = #[true, true, true, true, true, false, true, true, false, false, true, true, false, true, true, true, false, true, true, true, false, false, false] → Hid (AN w U w.heap.size p g) → Hid (NewS kB (w.heap.size + 2) U C0 d0 g.mem) → wpAnyH ?xP ?xM ?xO ?xQ ?xS 8 L (Act.put (Act.put (Act.put ?xA (some 5) (.slice C0 g.mem.length d0)) (some 16) (.slice (some ⟨e13, 0, none⟩) 0 0)) (some 20) (.slice (some ⟨e17, 0, none⟩) 0 0)) U := by
    clear HA1 hS
    rintro C0 d0 e13 e17 L U rfl HA HF0
    have hS := HCELL.out _ HA.out.box
    try simp only [Act.put, List.setIfInBounds_toArray, List.set_cons_zero, List.set_cons_succ]
    refine wpAnyH_ready (rs := [5, 9]) (by kernel_rfl) (by simp) ?_
    refine AllReadyH.cons (o := _) rfl (fun K' hK => ?_) (AllReadyH.cons (o := _) rfl (fun K' hK => ?_) (AllReadyH.nil))
    · go_simp
      have HA' := Lib.hid (HA.out.next ((Below.refl U.heap.size U).alloc (Nat.le_refl _) (.cells #[] 3)))
      replace HF0 := Lib.hid (HF0.out.keep ((Below.refl U.heap.size U).alloc (Nat.le_refl _) (.cells #[] 3)))
      refine hK.out _ _ (HCELL.out _ HA'.out.box) (fun hS => ?_)
      try simp only [Act.put, List.setIfInBounds_toArray, List.set_cons_zero, List.set_cons_succ]
      exact K1_1011 C0 d0 U.heap.size e13 e17 _ _ (by kernel_rfl) HA' HF0
    · go_simp
      have HA' := Lib.hid (HA.out.next ((Below.refl U.heap.size U).alloc (Nat.le_refl _) (.cells #[] 28)))
      replace HF0 := Lib.hid (HF0.out.keep ((Below.refl U.heap.size U).alloc (Nat.le_refl _) (.cells #[] 28)))
      refine hK.out _ _ (HCELL.out _ HA'.out.box) (fun hS => ?_)
      try simp only [Act.put, List.setIfInBounds_toArray, List.set_cons_zero, List.set_cons_succ]
      exact K1_0111 C0 d0 U.heap.size e13 e17 _ _ (by kernel_rfl) HA' HF0
  try simp only [Act.put, List.setIfInBounds_toArray, List.set_cons_zero, List.set_cons_succ] at K1_0011
  have K1_0101 : ∀ (C0 : Option Addr) (d0 : Nat) (e9 : Nat) (e17 : Nat) (L : Array Bool) (U : World), L = #[true, true, true, true, true, false, true, true, false, true, true, true, false, false, true, true, false, true, true, true, false, false, false] → Hid (AN w U w.heap.size p g) → Hid (NewS kB (w.heap.size + 2) U C0 d0 g.mem) → wpAnyH ?xP ?xM ?xO ?xQ ?xS 8 L (Act.put (Act.put (Act.put ?xA (some 5) (.slice C0 g.mem.length d0)) (some 12) (.slice (some ⟨e9, 0, none⟩) 0 0)) (some 20) (.slice (some ⟨e17, 0, none⟩) 0 0)) U := by
    clear HA1 hS
    rintro C0 d0 e9 e17 L U rfl HA HF0
    have hS := HCELL.out _ HA.out.box
    try simp only [Act.put, List.setIfInBounds_toArray, List.set_cons_zero, List.set_cons_succ]
    refine wpAnyH_ready (rs := [5, 13]) (by kernel_rfl) (by simp) ?_
    refine AllReadyH.cons (o := _) rfl (fun K' hK => ?_) (AllReadyH.cons (o := _) rfl (fun K' hK => ?_) (AllReadyH.nil))
    · go_simp
      have HA' := Lib.hid (HA.out.next ((Below.refl U.heap.size U).alloc (Nat.le_refl _) (.cells #[] 3)))
      replace HF0 := Lib.hid (HF0.out.keep ((Below.refl U.heap.size U).alloc (Nat.le_refl _) (.cells #[] 3)))
      refine hK.out _ _ (HCELL.out _ HA'.out.box) (fun hS => ?_)
      try simp only [Act.put, List.setIfInBounds_toArray, List.set_cons_zero, List.set_cons_succ]
      exact K1_1101 C0 d0 U.heap.size e9 e17 _ _ (by kernel_rfl) HA' HF0
    · go_simp
      have HA' := Lib.hid (HA.out.next ((Below.refl U.heap.size U).alloc (Nat.le_refl _) (.cells #[] 4)))
      replace HF0 := Lib.hid (HF0.out.keep ((Below.refl U.heap.size U).alloc (Nat.le_refl _) (.cells #[] 4)))
      refine hK.out _ _ (HCELL.out _ HA'.out.box) (fun hS => ?_)
      try simp only [Act.put, List.setIfInBounds_toArray, List.set_cons_zero, List.set_cons_succ]
      exact K1_0111 C0 d0 e9 U.heap.size e17 _ _ (by kernel_rfl) HA' HF0
  try simp only [Act.put, List.setIfInBounds_toArray, List.set_cons_zero, List.set_cons_succ] at K1_0101
  have K1_1001 : ∀ (C0 : Option Addr) (d0 : Nat) (e5 : Nat) (e17 : Nat) (L : Array Bool) (U : World), L = #[true, true, true, true, true, true, true, true, false, false, true, true, false, false, true, true, false, true, true, true, false, false, false] → Hid (AN w U w.heap.size p g) → Hid (NewS kB (w.heap.size + 2) U C0 d0 g.mem) → wpAnyH ?xP ?xM ?xO ?xQ ?xS 8 L (Act.put (Act.put (Act.put ?xA (some 5) (.slice C0 g.mem.length d0)) (some 8) (.slice (some ⟨e5, 0, none⟩) 0 0)) (some 20) (.slice (some ⟨e17, 0, none⟩) 0 0)) U := by
    clear HA1 hS
    rintro C0 d0 e5 e17 L U rfl HA HF0
    have hS := HCELL.out _ HA.out.box
    try simp only [Act.put, List.setIfInBounds_toArray, List.set_cons_zero, List.set_cons_succ]
    refine wpAnyH_ready (rs := [8, 9, 13]) (by kernel_rfl) (by simp) ?_
    refine AllReadyH.cons (o := _) rfl (fun K' hK => ?_) (AllReadyH.cons (o := _) rfl (fun K' hK => ?_) (AllReadyH.cons (o := _) rfl (fun K' hK => ?_) (AllReadyH.nil)))
    · refine step_app_e kI rfl (.tmp 8) (.tmp 10) rfl e5 (by kernel_rfl) p.A2 p.c2 g.tab (by kernel_rfl) w.heap.size (ints_lead (HST.out.l.tab.below HA.out.b)) HST.out.r.t0 (by have := HFI.out; omega) ?_
      intro C2 d2 V hn hbel
      have HA' := Lib.hid (HA.out.next hbel)
      replace HF0 := Lib.hid (HF0.out.keep hbel)
      have HF2 : Hid (NewS kI (w.heap.size + 2) V C2 d2 g.tab) := Lib.hid (hn.base (by have := HA.out.res.lt; omega))
      clear hn hbel
      refine hK.out _ _ (HCELL.out _ HA'.out.box) (fun hS => ?_)
      try simp only [Act.put, List.setIfInBounds_toArray, List.set_cons_zero, List.set_cons_succ]
      exact K2_1001 C0 d0 C2 d2 e5 e17 _ _ (by kernel_rfl) HA' HF0 HF2
    · go_simp
      have HA' := Lib.hid (HA.out.next ((Below.refl U.heap.size U).alloc (Nat.le_refl _) (.cells #[] 28)))
      replace HF0 := Lib.hid (HF0.out.keep ((Below.refl U.heap.size U).alloc (Nat.le_refl _) (.cells #[] 28)))
      refine hK.out _ _ (HCELL.out _ HA'.out.box) (fun hS => ?_)
      try simp only [Act.put, List.setIfInBounds_toArray, List.set_cons_zero, List.set_cons_succ]
      exact K1_1101 C0 d0 e5 U.heap.size e17 _ _ (by kernel_rfl) HA' HF0
    · go_simp
      have HA' := Lib.hid (HA.out.next ((Below.refl U.heap.size U).alloc (Nat.le_refl _) (.cells #[] 4)))
      replace HF0 := Lib.hid (HF0.out.keep ((Below.refl U.heap.size U).alloc (Nat.le_refl _) (.cells #[] 4)))
      refine hK.out _ _ (HCELL.out _ HA'.out.box) (fun hS => ?_)
      try simp only [Act.put, List.setIfInBounds_toArray, List.set_cons_zero, List.set_cons_succ]
      exact K1_1011 C0 d0 e5 U.heap.size e17 _ _ (by kernel_rfl) HA' HF0
  try simp only [Act.put, List.setIfInBounds_toArray, List.set_cons_zero, List.set_cons_succ] at K1_1001
  have K1_0110 : ∀ (C0 : Option Addr) (d0 : Nat) (e9 : Nat) (e13 : Nat) (L : Array Bool) (U : World), L = #[true, true, true, true, true, false, true, true, false, true, true, true, false, true, true, true, false, false, true, true, false, false, false] → Hid (AN w U w.heap.size p g) → Hid (NewS kB (w.heap.size + 2) U C0 d0 g.mem) → wpAnyH ?xP ?xM ?xO ?xQ ?xS 8 L (Act.put (Act.put (Act.put ?xA (some 5) (.slice C0 g.mem.length d0)) (some 12) (.slice (some ⟨e9, 0, none⟩) 0 0)) (some 16) (.slice (some ⟨e13, 0, none⟩) 0 0)) U := by
    clear HA1 hS
    rintro C0 d0 e9 e13 L U rfl HA HF0
    have hS := HCELL.out _ HA.out.box
    try simp only [Act.put, List.setIfInBounds_toArray, List.set_cons_zero, List.set_cons_succ]
    refine wpAnyH_ready (rs := [5, 17]) (by kernel_rfl) (by simp) ?_
    refine AllReadyH.cons (o := _) rfl (fun K' hK => ?_) (AllReadyH.cons (o := _) rfl (fun K' hK => ?_) (AllReadyH.nil))
    · go_simp
      have HA' := Lib.hid (HA.out.next ((Below.refl U.heap.size U).alloc (Nat.le_refl _) (.cells #[] 3)))
      replace HF0 := Lib.hid (HF0.out.keep ((Below.refl U.heap.size U).alloc (Nat.le_refl _) (.cells #[] 3)))
      refine hK.out _ _ (HCELL.out _ HA'.out.box) (fun hS => ?_)
      try simp only [Act.put, List.setIfInBounds_toArray, List.set_cons_zero, List.set_cons_succ]
      exact K1_1110 C0 d0 U.heap.size e9 e13 _ _ (by kernel_rfl) HA' HF0
    · go_simp
      have HA' := Lib.hid (HA.out.next ((Below.refl U.heap.size U).alloc (Nat.le_refl _) (.cells #[] 4)))
      replace HF0 := Lib.hid (HF0.out.keep ((Below.refl U.heap.size U).alloc (Nat.le_refl _) (.cells #[] 4)))
      refine hK.out _ _ (HCELL.out _ HA'.out.box) (fun hS => ?_)
      try simp only [Act.put, List.setIfInBounds_toArray, List.set_cons_zero, List.set_cons_succ]
      exact K1_0111 C0 d0 e9 e13 U.heap.size _ _ (by kernel_rfl) HA' HF0
  try simp only [Act.put, List.setIfInBounds_toArray, List.set_cons_zero, List.set_cons_succ] at K1_0110
  have K1_1010 : ∀ (C0 : Option Addr) (d0 : Nat) (e5 : Nat) (e13 : Nat) (L : Array Bool) (U : World), L = #[true, true, true, true, true, true, true, true, false, false, true, true, false, true, true, true, false, false, true, true, false, false, false] → Hid (AN w U w.heap.size p g) → Hid (NewS kB (w.heap.size + 2) U C0 d0 g.mem) → wpAnyH ?xP ?xM ?xO ?xQ ?xS 8 L (Act.put (Act.put (Act.put ?xA (some 5) (.slice C0 g.mem.length d0)) (some 8) (.slice (some ⟨e5, 0, none⟩) 0 0)) (some 16) (.slice (some ⟨e13, 0, none⟩) 0 0)) U := by
    clear HA1 hS
    rintro C0 d0 e5 e13 L U rfl HA HF0
    have hS := HCELL.out _ HA.out.box
    try simp only [Act.put, List.setIfInBounds_toArray, List.set_cons_zero, List.set_cons_succ]
    refine wpAnyH_ready (rs := [8, 9, 17]) (by kernel_rfl) (by simp) ?_
    refine AllReadyH.cons (o := _) rfl (fun K' hK => ?_) (AllReadyH.cons (o := _) rfl (fun K' hK => ?_) (AllReadyH.cons (o := _) rfl (fun K' hK => ?_) (AllReadyH.nil)))
    · refine step_app_e kI rfl (.tmp 8) (.tmp 10) rfl e5 (by kernel_rfl) p.A2 p.c2 g.tab (by kernel_rfl) w.heap.size (ints_lead (HST.out.l.tab.below HA.out.b)) HST.out.r.t0 (by have := HFI.out; omega) ?_
      intro C2 d2 V hn hbel
      have HA' := Lib.hid (HA.out.next hbel)
      replace HF0 := Lib.hid (HF0.out.keep hbel)
      have HF2 : Hid (NewS kI (w.heap.size + 2) V C2 d2 g.tab) := Lib.hid (hn.base (by have := HA.out.res.lt; omega))
      clear hn hbel
      refine hK.out _ _ (HCELL.out _ HA'.out.box) (fun hS => ?_)
      try simp only [Act.put, List.setIfInBounds_toArray, List.set_cons_zero, List.set_cons_succ]
      exact K2_1010 C0 d0 C2 d2 e5 e13 _ _ (by kernel_rfl) HA' HF0 HF2
    · go_simp
      have HA' := Lib.hid (HA.out.next ((Below.refl U.heap.size U).alloc (Nat.le_refl _) (.cells #[] 28)))
      replace HF0 := Lib.hid (HF0.out.keep ((Below.refl U.heap.size U).alloc (Nat.le_refl _) (.cells #[] 28)))
      refine hK.out _ _ (HCELL.out _ HA'.out.box) (fun hS => ?_)
      try simp only [Act.put, List.setIfInBounds_toArray, List.set_cons_zero, List.set_cons_succ]
      exact K1_1110 C0 d0 e5 U.heap.size e13 _ _ (by kernel_rfl) HA' HF0
    · go_simp
      have HA' := Lib.hid (HA.out.next ((Below.refl U.heap.size U).alloc (Nat.le_refl _) (.cells #[] 4)))
      replace HF0 := Lib.hid (HF0.out.keep ((Below.refl U.heap.size U).alloc (Nat.le_refl _) (.cells #[] 4)))
      refine hK.out _ _ (HCELL.out _ HA'.out.box) (fun hS => ?_)
      try simp only [Act.put, List.setIfInBounds_toArray, List.set_cons_zero, List.set_cons_succ]
      exact K1_1011 C0 d0 e5 e13 U.heap.size _ _ (by kernel_rfl) HA' HF0
  try simp only [Act.put, List.setIfInBounds_toArray, List.set_cons_zero, List.set_cons_succ] at K1_1010
  have K1_1100 : ∀ (C0 : Option Addr) (d0 : Nat) (e5 : Nat) (e9 : Nat) (L : Array Bool) (U : World), L = #[true, true, true, true, true, true, true, true, false, true, true, true, false, false, true, true, false, false, true, true, false, false, false] → Hid (AN w U w.heap.size p g) → Hid (NewS kB (w.heap.size + 2) U C0 d0 g.mem) → wpAnyH ?xP ?xM ?xO ?xQ ?xS 8 L (Act.put (Act.put (Act.put ?xA (some 5) (.slice C0 g.mem.length d0)) (some 8) (.slice (some ⟨e5, 0, none⟩) 0 0)) (some 12) (.slice (some ⟨e9, 0, none⟩) 0 0)) U := by
    clear HA1 hS
    rintro C0 d0 e5 e9 L U rfl HA HF0
    have hS := HCELL.out _ HA.out.box
    try simp only [Act.put, List.setIfInBounds_toArray, List.set_cons_zero, List.set_cons_succ]
    refine wpAnyH_ready (rs := [8, 13, 17]) (by kernel_rfl) (by simp) ?_
    refine AllReadyH.cons (o := _) rfl (fun K' hK => ?_) (AllReadyH.cons (o := _) rfl (fun K' hK => ?_) (AllReadyH.cons (o := _) rfl (fun K' hK => ?_) (AllReadyH.nil)))
    · refine step_app_e kI rfl (.tmp 8) (.tmp 10) rfl e5 (by kernel_rfl) p.A2 p.c2 g.tab (by kernel_rfl) w.heap.size (ints_lead (HST.out.l.tab.below HA.out.b)) HST.out.r.t0 (by have := HFI.out; omega) ?_
      intro C2 d2 V hn hbel
      have HA' := Lib.hid (HA.out.next hbel)
      replace HF0 := Lib.hid (HF0.out.keep hbel)
      have HF2 : Hid (NewS kI (w.heap.size + 2) V C2 d2 g.tab) := Lib.hid (hn.base (by have := HA.out.res.lt; omega))
      clear hn hbel
      refine hK.out _ _ (HCELL.out _ HA'.out.box) (fun hS => ?_)
      try simp only [Act.put, List.setIfInBounds_toArray, List.set_cons_zero, List.set_cons_succ]
      exact K2_1100 C0 d0 C2 d2 e5 e9 _ _ (by kernel_rfl) HA' HF0 HF2
    · go_simp
      have HA' := Lib.hid (HA.out.next ((Below.refl U.heap.size U).alloc (Nat.le_refl _) (.cells #[] 4)))
      replace HF0 := Lib.hid (HF0.out.keep ((Below.refl U.heap.size U).alloc (Nat.le_refl _) (.cells #[] 4)))
      refine hK.out _ _ (HCELL.out _ HA'.out.box) (fun hS => ?_)
      try simp only [Act.put, List.setIfInBounds_toArray, List.set_cons_zero, List.set_cons_succ]
      exact K1_1110 C0 d0 e5 e9 U.heap.size _ _ (by kernel_rfl) HA' HF0
    · go_simp
      have HA' := Lib.hid (HA.out.next ((Below.refl U.heap.size U).alloc (Nat.le_refl _) (.cells #[] 4)))
      replace HF0 := Lib.hid (HF0.out.keep ((Below.refl U.heap.size U).alloc (Nat.le_refl _) (.cells #[] 4)))
      refine hK.out _ _ (HCELL.out _ HA'.out.box) (fun hS => ?_)
      try simp only [Act.put, List.setIfInBounds_toArray, List.set_cons_zero, List.set_cons_succ]
      exact K1_1101 C0 d0 e5 e9 U.heap.size _ _ (by kernel_rfl) HA' HF0
  try simp only [Act.put, List.setIfInBounds_toArray, List.set_cons_zero, List.set_cons_succ] at K1_1100
  have K1_0001 : ∀ (C0 : Option Addr) (d0 : Nat) (e17 : Nat) (L : Array Bool) (U : World), L = #[true, true, true, true, true, false, true, true, false, false, true, true, false, false, true, true, false, true, true, true, false, false, false] → Hid (AN w U w.heap.size p g) → Hid (NewS kB (w.heap.size + 2) U C0 d0 g.mem) → wpAnyH ?xP ?xM ?xO ?xQ ?xS 9 L (Act.put (Act.put ?xA (some 5) (.slice C0 g.mem.length d0)) (some 20) (.slice (some ⟨e17, 0, none⟩) 0 0)) U := by
    clear HA1 hS
    rintro C0 d0 e17 L U rfl HA HF0
    have hS := HCELL.out _ HA.out.box
    try simp only [Act.put, List.setIfInBounds_toArray, List.set_cons_zero, List.set_cons_succ]
    refine wpAnyH_ready (rs := [5, 9, 13]) (by kernel_rfl) (by simp) ?_
    refine AllReadyH.cons (o := _) rfl (fun K' hK => ?_) (AllReadyH.cons (o := _) rfl (fun K' hK => ?_) (AllReadyH.cons (o := _) rfl (fun K' hK => ?_) (AllReadyH.nil)))
    · go_simp
      have HA' := Lib.hid (HA.out.next ((Below.refl U.heap.size U).alloc (Nat.le_refl _) (.cells #[] 3)))
      replace HF0 := Lib.hid (HF0.out.keep ((Below.refl U.heap.size U).alloc (Nat.le_refl _) (.cells #[] 3)))
      refine hK.out _ _ (HCELL.out _ HA'.out.box) (fun hS => ?_)
      try simp only [Act.put, List.setIfInBounds_toArray, List.set_cons_zero, List.set_cons_succ]
      exact K1_1001 C0 d0 U.heap.size e17 _ _ (by kernel_rfl) HA' HF0
    · go_simp
      have HA' := Lib.hid (HA.out.next ((Below.refl U.heap.size U).alloc (Nat.le_refl _) (.cells #[] 28)))
      replace HF0 := Lib.hid (HF0.out.keep ((Below.refl U.heap.size U).alloc (Nat.le_refl _) (.cells #[] 28)))
      refine hK.out _ _ (HCELL.out _ HA'.out.box) (fun hS => ?_)
      try simp only [Act.put, List.setIfInBounds_toArray, List.set_cons_zero, List.set_cons_succ]
      exact K1_0101 C0 d0 U.heap.size e17 _ _ (by kernel_rfl) HA' HF0
    · go_simp
      have HA' := Lib.hid (HA.out.next ((Below.refl U.heap.size U).alloc (Nat.le_refl _) (.cells #[] 4)))
      replace HF0 := Lib.hid (HF0.out.keep ((Below.refl U.heap.size U).alloc (Nat.le_refl _) (.cells #[] 4)))
      refine hK.out _ _ (HCELL.out _ HA'.out.box) (fun hS => ?_)
      try simp only [Act.put, List.setIfInBounds_toArray, List.set_cons_zero, List.set_cons_succ]
      exact K1_0011 C0 d0 U.heap.size e17 _ _ (by kernel_rfl) HA' HF0
  try simp only [Act.put, List.setIfInBounds_toArray, List.set_cons_zero, List.set_cons_succ] at K1_0001
  have K1_0010 : ∀ (C0 : Option Addr) (d0 : Nat) (e13 : Nat) (L : Array Bool) (U : World), L = #[true, true, true, true, true, false, true, true, false, false, true, true, false, true, true, true, false, false, true, true, false, false, false] → Hid (AN w U w.heap.size p g) → Hid (NewS kB (w.heap.size + 2) U C0 d0 g.mem) → wpAnyH ?xP ?xM ?xO ?xQ ?xS 9 L (Act.put (Act.put ?xA (some 5) (.slice C0 g.mem.length d0)) (some 16) (.slice (some ⟨e13, 0, none⟩) 0 0)) U := by
    clear HA1 hS
    rintro C0 d0 e13 L U rfl HA HF0
    have hS := HCELL.out _ HA.out.box
    try simp only [Act.put, List.setIfInBounds_toArray, List.set_cons_zero, List.set_cons_succ]
    refine wpAnyH_ready (rs := [5, 9, 17]) (by kernel_rfl) (by simp) ?_
    refine AllReadyH.cons (o := _) rfl (fun K' hK => ?_) (AllReadyH.cons (o := _) rfl (fun K' hK => ?_) (AllReadyH.cons (o := _) rfl (fun K' hK => ?_) (AllReadyH.nil)))
    · go_simp
      have HA' := Lib.hid (HA.out.next ((Below.refl U.heap.size U).alloc (Nat.le_refl _) (.cells #[] 3)))
      replace HF0 := Lib.hid (HF0.out.keep ((Below.refl U.heap.size U).alloc (Nat.le_refl _) (.cells #[] 3)))
      refine hK.out _ _ (HCELL.out _ HA'.out.box) (fun hS => ?_)
      try simp only [Act.put, List.setIfInBounds_toArray, List.set_cons_zero, List.set_cons_succ]
      exact K1_1010 C0 d0 U.heap.size e13 _ _ (by kernel_rfl) HA' HF0
    · go_simp
      have HA' := Lib.hid (HA.out.next ((Below.refl U.heap.size U).alloc (Nat.le_refl _) (.cells #[] 28)))
      replace HF0 := Lib.hid (HF0.out.keep ((Below.refl U.heap.size U).alloc (Nat.le_refl _) (.cells #[] 28)))
      refine hK.out _ _ (HCELL.out _ HA'.out.box) (fun hS => ?_)
      try simp only [Act.put, List.setIfInBounds_toArray, List.set_cons_zero, List.set_cons_succ]
      exact K1_0110 C0 d0 U.heap.size e13 _ _ (by kernel_rfl) HA' HF0
    · go_simp
      have HA' := Lib.hid (HA.out.next ((Below.refl U.heap.size U).alloc (Nat.le_refl _) (.cells #[] 4)))
      replace HF0 := Lib.hid (HF0.out.keep ((Below.refl U.heap.size U).alloc (Nat.le_refl _) (.cells #[] 4)))
      refine hK.out _ _ (HCELL.out _ HA'.out.box) (fun hS => ?_)
      try simp only [Act.put, List.setIfInBounds_toArray, List.set_cons_zero, List.set_cons_succ]
      exact K1_0011 C0 d0 e13 U.heap.size _ _ (by kernel_rfl) HA' HF0
  try simp only [Act.put, List.setIfInBounds_toArray, List.set_cons_zero, List.set_cons_succ] at K1_0010
  have K1_0100 : ∀ (C0 : Option Addr) (d0 : Nat) (e9 : Nat) (L : Array Bool) (U : World), L = #[true, true, true, true, true, false, true, true, false, true, true, true, false, false, true, true, false, false, true, true, false, false, false] → Hid (AN w U w.heap.size p g) → Hid (NewS kB (w.heap.size + 2) U C0 d0 g.mem) → wpAnyH ?xP ?xM ?xO ?xQ ?xS 9 L (Act.put (Act.put ?xA (some 5) (.slice C0 g.mem.length d0)) (some 12) (.slice (some ⟨e9, 0, none⟩) 0 0)) U := by
    clear HA1 hS
    rintro C0 d0 e9 L U rfl HA HF0
    have hS := HCELL.out _ HA.out.box
    try simp only [Act.put, List.setIfInBounds_toArray, List.set_cons_zero, List.set_cons_succ]
    refine wpAnyH_ready (rs := [5, 13, 17]) (by kernel_rfl) (by simp) ?_
    refine AllReadyH.cons (o := _) rfl (fun K' hK => ?_) (AllReadyH.cons (o := _) rfl (fun K' hK => ?_) (AllReadyH.cons (o := _) rfl (fun K' hK => ?_) (AllReadyH.nil)))
    · go_simp
      have HA' := Lib.hid (HA.out.next ((Below.refl U.heap.size U).alloc (Nat.le_refl _) (.cells #[] 3)))
      replace HF0 := Lib.hid (HF0.out.keep ((Below.refl U.heap.size U).alloc (Nat.le_refl _) (.cells #[] 3)))
      refine hK.out _ _ (HCELL.out _ HA'.out.box) (fun hS => ?_)
      try simp only [Act.put, List.setIfInBounds_toArray, List.set_cons_zero, List.set_cons_succ]
      exact K1_1100 C0 d0 U.heap.size e9 _ _ (by kernel_rfl) HA' HF0
    · go_simp
      have HA' := Lib.hid (HA.out.next ((Below.refl U.heap.size U).alloc (Nat.le_refl _) (.cells #[] 4)))
      replace HF0 := Lib.hid (HF0.out.keep ((Below.refl U.heap.size U).alloc (Nat.le_refl _) (.cells #[] 4)))
      refine hK.out _ _ (HCELL.out _ HA'.out.box) (fun hS => ?_)
      try simp only [Act.put, List.setIfInBounds_toArray, List.set_cons_zero, List.set_cons_succ]
      exact K1_0110 C0 d0 e9 U.heap.size _ _ (by kernel_rfl) HA' HF0
    · go_simp
      have HA' := Lib.hid (HA.out.next ((Below.refl U.heap.size U).alloc (Nat.le_refl _) (.cells #[] 4)))
      replace HF0 := Lib.hid (HF0.out.keep ((Below.refl U.heap.size U).alloc (Nat.le_refl _) (.cells #[] 4)))
      refine hK.out _ _ (HCELL.out _ HA'.out.box) (fun hS => ?_)
      try simp only [Act.put, List.setIfInBounds_toArray, List.set_cons_zero, List.set_cons_succ]
      exact K1_0101 C0 d0 e9 U.heap.size _ _ (by kernel_rfl) HA' HF0
  try simp only [Act.put, List.setIfInBounds_toArray, List.set_cons_zero, List.set_cons_succ] at K1_0100
  have K1_1000 : ∀ (C0 : Option Addr) (d0 : Nat) (e5 : Nat) (L : Array Bool) (U : World), L = #[true, true, true, true, true, true, true, true, false, false, true, true, false, false, true, true, false, false, true, true, false, false, false] → Hid (AN w U w.heap.size p g) → Hid (NewS kB (w.heap.size + 2) U C0 d0 g.mem) → wpAnyH ?xP ?xM ?xO ?xQ ?xS 9 L (Act.put (Act.put ?xA (some 5) (.slice C0 g.mem.length d0)) (some 8) (.slice (some ⟨e5, 0, none⟩) 0 0)) U := by
    clear HA1 hS
    rintro C0 d0 e5 L U rfl HA HF0
    have hS := HCELL.out _ HA.out.box
    try simp only [Act.put, List.setIfInBounds_toArray, List.set_cons_zero, List.set_cons_succ]
    refine wpAnyH_ready (rs := [8, 9, 13, 17]) (by kernel_rfl) (by simp) ?_
    refine AllReadyH.cons (o := _) rfl (fun K' hK => ?_) (AllReadyH.cons (o := _) rfl (fun K' hK => ?_) (AllReadyH.cons (o := _) rfl (fun K' hK => ?_) (AllReadyH.cons (o := _) rfl (fun K' hK => ?_) (AllReadyH.nil))))
    · refine step_app_e kI rfl (.tmp 8) (.tmp 10) rfl e5 (by kernel_rfl) p.A2 p.c2 g.tab (by kernel_rfl) w.heap.size (ints_lead (HST.out.l.tab.below HA.out.b)) HST.out.r.t0 (by have := HFI.out; omega) ?_
      intro C2 d2 V hn hbel
      have HA' := Lib.hid (HA.out.next hbel)
      replace HF0 := Lib.hid (HF0.out.keep hbel)
      have HF2 : Hid (NewS kI (w.heap.size + 2) V C2 d2 g.tab) := Lib.hid (hn.base (by have := HA.out.res.lt; omega))
      clear hn hbel
      refine hK.out _ _ (HCELL.out _ HA'.out.box) (fun hS => ?_)
      try simp only [Act.put, List.setIfInBounds_toArray, List.set_cons_zero, List.set_cons_succ]
      exact K2_1000 C0 d0 C2 d2 e5 _ _ (by kernel_rfl) HA' HF0 HF2
    · go_simp
      have HA' := Lib.hid (HA.out.next ((Below.refl U.heap.size U).alloc (Nat.le_refl _) (.cells #[] 28)))
      replace HF0 := Lib.hid (HF0.out.keep ((Below.refl U.heap.size U).alloc (Nat.le_refl _) (.cells #[] 28)))
      refine hK.out _ _ (HCELL.out _ HA'.out.box) (fun hS => ?_)
      try simp only [Act.put, List.setIfInBounds_toArray, List.set_cons_zero, List.set_cons_succ]
      exact K1_1100 C0 d0 e5 U.heap.size _ _ (by kernel_rfl) HA' HF0
    · go_simp
      have HA' := Lib.hid (HA.out.next ((Below.refl U.heap.size U).alloc (Nat.le_refl _) (.cells #[] 4)))
      replace HF0 := Lib.hid (HF0.out.keep ((Below.refl U.heap.size U).alloc (Nat.le_refl _) (.cells #[] 4)))
      refine hK.out _ _ (HCELL.out _ HA'.out.box) (fun hS => ?_)
      try simp only [Act.put, List.setIfInBounds_toArray, List.set_cons_zero, List.set_cons_succ]
      exact K1_1010 C0 d0 e5 U.heap.size _ _ (by kernel_rfl) HA' HF0
    · go_simp
      have HA' := Lib.hid (HA.out.next ((Below.refl U.heap.size U).alloc (Nat.le_refl _) (.cells #[] 4)))
      replace HF0 := Lib.hid (HF0.out.keep ((Below.refl U.heap.size U).alloc (Nat.le_refl _) (.cells #[] 4)))
      refine hK.out _ _ (HCELL.out _ HA'.out.box) (fun hS => ?_)
      try simp only [Act.put, List.setIfInBounds_toArray, List.set_cons_zero, List.set_cons_succ]
      exact K1_1001 C0 d0 e5 U.heap.size _ _ (by kernel_rfl) HA' HF0
  try simp only [Act.put, List.setIfInBounds_toArray, List.set_cons_zero, List.set_cons_succ] at K1_1000
  have K1_0000 : ∀ (C0 : Option Addr) (d0 : Nat) (L : Array Bool) (U : World), L = #[true, true, true, true, true, false, true, true, false, false, true, true, false, false, true, true, false, false, true, true, false, false, false] → Hid (AN w U w.heap.size p g) → Hid (NewS kB (w.heap.size + 2) U C0 d0 g.mem) → wpAnyH ?xP ?xM ?xO ?xQ ?xS 10 L (Act.put ?xA (some 5) (.slice C0 g.mem.length d0)) U := by
    clear HA1 hS
    rintro C0 d0 L U rfl HA HF0
    have hS := HCELL.out _ HA.out.box
    try simp only [Act.put, List.setIfInBounds_toArray, List.set_cons_zero, List.set_cons_succ]
    refine wpAnyH_ready (rs := [5, 9, 13, 17]) (by kernel_rfl) (by simp) ?_
    refine AllReadyH.cons (o := _) rfl (fun K' hK => ?_) (AllReadyH.cons (o := _) rfl (fun K' hK => ?_) (AllReadyH.cons (o := _) rfl (fun K' hK => ?_) (AllReadyH.cons (o := _) rfl (fun K' hK => ?_) (AllReadyH.nil))))
    · go_simp
      have HA' := Lib.hid (HA.out.next ((Below.refl U.heap.size U).alloc (Nat.le_refl _) (.cells #[] 3)))
      replace HF0 := Lib.hid (HF0.out.keep ((Below.refl U.heap.size U).alloc (Nat.le_refl _) (.cells #[] 3)))
      refine hK.out _ _ (HCELL.out _ HA'.out.box) (fun hS => ?_)
      try simp only [Act.put, List.setIfInBounds_toArray, List.set_cons_zero, List.set_cons_succ]
      exact K1_1000 C0 d0 U.heap.size _ _ (by kernel_rfl) HA' HF0
    · go_simp
      have HA' := Lib.hid (HA.out.next ((Below.refl U.heap.size U).alloc (Nat.le_refl _) (.cells #[] 28)))
      replace HF0 := Lib.hid (HF0.out.keep ((Below.refl U.heap.size U).alloc (Nat.le_refl _) (.cells #[] 28)))
      refine hK.out _ _ (HCELL.out _ HA'.out.box) (fun hS => ?_)
      try simp only [Act.put, List.setIfInBounds_toArray, List.set_cons_zero, List.set_cons_succ]
      exact K1_0100 C0 d0 U.heap.size _ _ (by kernel_rfl) HA' HF0
    · go_simp
      have HA' := Lib.hid (HA.out.next ((Below.refl U.heap.size U).alloc (Nat.le_refl _) (.cells #[] 4)))
      replace HF0 := Lib.hid (HF0.out.keep ((Below.refl U.heap.size U).alloc (Nat.le_refl _) (.cells #[] 4)))
      refine hK.out _ _ (HCELL.out _ HA'.out.box) (fun hS => ?_)
      try simp only [Act.put, List.setIfInBounds_toArray, List.set_cons_zero, List.set_cons_succ]
      exact K1_0010 C0 d0 U.heap.size _ _ (by kernel_rfl) HA' HF0
    · go_simp
      have HA' := Lib.hid (HA.out.next ((Below.refl U.heap.size U).alloc (Nat.le_refl _) (.cells #[] 4)))
      replace HF0 := Lib.hid (HF0.out.keep ((Below.refl U.heap.size U).alloc (Nat.le_refl _) (.cells #[] 4)))
      refine hK.out _ _ (HCELL.out _ HA'.out.box) (fun hS => ?_)
      try simp only [Act.put, List.setIfInBounds_toArray, List.set_cons_zero, List.set_cons_succ]
      exact K1_0001 C0 d0 U.heap.size _ _ (by kernel_rfl) HA' HF0
  try simp only [Act.put, List.setIfInBounds_toArray, List.set_cons_zero, List.set_cons_succ] at K1_0000
  have K0_1111 : ∀ (e5 : Nat) (e9 : Nat) (e13 : Nat) (e17 : Nat) (L : Array Bool) (U : World), L = #[true, true, false, true, true, true, true, true, false, true, true, true, false, true, true, true, false, true, true, true, false, false, false] → Hid (AN w U w.heap.size p g) → wpAnyH ?xP ?xM ?xO ?xQ ?xS 7 L (Act.put (Act.put (Act.put (Act.put ?xA (some 8) (.slice (some ⟨e5, 0, none⟩) 0 0)) (some 12) (.slice (some ⟨e9, 0, none⟩) 0 0)) (some 16) (.slice (some ⟨e13, 0, none⟩) 0 0)) (some 20) (.slice (some ⟨e17, 0, none⟩) 0 0)) U := by
    clear HA1 hS
    rintro e5 e9 e13 e17 L U rfl HA 
    have hS := HCELL.out _ HA.out.box
    try simp only [Act.put, List.setIfInBounds_toArray, List.set_cons_zero, List.set_cons_succ]
    refine wpAnyH_ready (rs := [2]) (by kernel_rfl) (by simp) ?_
    refine AllReadyH.cons (o := _) rfl (fun K' hK => ?_) (AllReadyH.nil)
    go_simp
    refine (cpy_any p g U (HST.out.upK HA.out.b) HFI.out.1).mono ?_
    rintro en V ⟨C0, d0, rfl, hn, hbel⟩
    have HA' := Lib.hid (HA.out.next hbel)
    have HF0 : Hid (NewS kB (w.heap.size + 2) V C0 d0 g.mem) := Lib.hid (hn.base (by have := HA.out.res.lt; omega))
    clear hn hbel
    go_wp2_with fail
    refine hK.out _ _ (HCELL.out _ HA'.out.box) (fun hS => ?_)
    try simp only [Act.put, List.setIfInBounds_toArray, List.set_cons_zero, List.set_cons_succ]
    exact K1_1111 C0 d0 e5 e9 e13 e17 _ _ (by kernel_rfl) HA' HF0
  try simp only [Act.put, List.setIfInBounds_toArray, List.set_cons_zero, List.set_cons_succ] at K0_1111
  have K0_0111 : ∀ (e9 : Nat) (e13 : Nat) (e17 : Nat) (L : Array Bool) (U : World), L = #[true, true, false, true, true, false, true, true, false, true, true, true, false, true, true, true, false, true, true, true, false, false, false] → Hid (AN w U w.heap.size p g) → wpAnyH ?xP ?xM ?xO ?xQ ?xS 8 L (Act.put (Act.put (Act.put ?xA (some 12) (.slice (some ⟨e9, 0, none⟩) 0 0)) (some 16) (.slice (some ⟨e13, 0, none⟩) 0 0)) (some 20) (.slice (some ⟨e17, 0, none⟩) 0 0)) U := by
    clear HA1 hS
    rintro e9 e13 e17 L U rfl HA 
    have hS := HCELL.out _ HA.out.box
    try simp only [Act.put, List.setIfInBounds_toArray, List.set_cons_zero, List.set_cons_succ]
    refine wpAnyH_ready (rs := [2, 5]) (by kernel_rfl) (by simp) ?_
    refine AllReadyH.cons (o := _) rfl (fun K' hK => ?_) (AllReadyH.cons (o := _) rfl (fun K' hK => ?_) (AllReadyH.nil))
    · go_simp
      refine (cpy_any p g U (HST.out.upK HA.out.b) HFI.out.1).mono ?_
      rintro en V ⟨C0, d0, rfl, hn, hbel⟩
      have HA' := Lib.hid (HA.out.next hbel)
      have HF0 : Hid (NewS kB (w.heap.size + 2) V C0 d0 g.mem) := Lib.hid (hn.base (by have := HA.out.res.lt; omega))
      clear hn hbel
      go_wp2_with fail
      refine hK.out _ _ (HCELL.out _ HA'.out.box) (fun hS => ?_)
      try simp only [Act.put, List.setIfInBounds_toArray, List.set_cons_zero, List.set_cons_succ]
      exact K1_0111 C0 d0 e9 e13 e17 _ _ (by kernel_rfl) HA' HF0
    · go_simp
      have HA' := Lib.hid (HA.out.next ((Below.refl U.heap.size U).alloc (Nat.le_refl _) (.cells #[] 3)))
      refine hK.out _ _ (HCELL.out _ HA'.out.box) (fun hS => ?_)
      try simp only [Act.put, List.setIfInBounds_toArray, List.set_cons_zero, List.set_cons_succ]
      exact K0_1111 U.heap.size e9 e13 e17 _ _ (by kernel_rfl) HA' 
  try simp only [Act.put, List.setIfInBounds_toArray, List.set_cons_zero, List.set_cons_succ] at K0_0111
  have K0_1011 : ∀ (e5 : Nat) (e13 : Nat) (e17 : Nat) (L : Array Bool) (U : World), L = #[true, true, false, true, true, true, true, true, false, false, true, true, false, true, true, true, false, true, true, true, false, false, false] → Hid (AN w U w.heap.size p g) → wpAnyH ?xP ?xM ?xO ?xQ ?xS 8 L (Act.put (Act.put (Act.put ?xA (some 8) (.slice (some ⟨e5, 0, none⟩) 0 0)) (some 16) (.slice (some ⟨e13, 0, none⟩) 0 0)) (some 20) (.slice (some ⟨e17, 0, none⟩) 0 0)) U := by
    clear HA1 hS
    rintro e5 e13 e17 L U rfl HA 
    have hS := HCELL.out _ HA.out.box
    try simp only [Act.put, List.setIfInBounds_toArray, List.set_cons_zero, List.set_cons_succ]
    refine wpAnyH_ready (rs := [2, 9]) (by kernel_rfl) (by simp) ?_
    refine AllReadyH.cons (o := _) rfl (fun K' hK => ?_) (AllReadyH.cons (o := _) rfl (fun K' hK => ?_) (AllReadyH.nil))
    · go_simp
      refine (cpy_any p g U (HST.out.upK HA.out.b) HFI.out.1).mono ?_
      rintro en V ⟨C0, d0, rfl, hn, hbel⟩
      have HA' := Lib.hid (HA.out.next hbel)
      have HF0 : Hid (NewS kB (w.heap.size + 2) V C0 d0 g.mem) := Lib.hid (hn.base (by have := HA.out.res.lt; omega))
      clear hn hbel
      go_wp2_with fail
      refine hK.out _ _ (HCELL.out _ HA'.out.box) (fun hS => ?_)
      try simp only [Act.put, List.setIfInBounds_toArray, List.set_cons_zero, List.set_cons_succ]
      exact K1_1011 C0 d0 e5 e13 e17 _ _ (by kernel_rfl) HA' HF0
    · go_simp
      have HA' := Lib.hid (HA.out.next ((Below.refl U.heap.size U).alloc (Nat.le_refl _) (.cells #[] 28)))
      refine hK.out _ _ (HCELL.out _ HA'.out.box) (fun hS => ?_)
      try simp only [Act.put, List.setIfInBounds_toArray, List.set_cons_zero, List.set_cons_succ]
      exact K0_1111 e5 U.heap.size e13 e17 _ _ (by kernel_rfl) HA' 
  try simp only [Act.put, List.setIfInBounds_toArray, List.set_cons_zero, List.set_cons_succ] at K0_1011
  have K0_1101 : ∀ (e5 : Nat) (e9 : Nat) (e17 : Nat) (L : Array Bool) (U : World), L = #[true, true, false, true, true, true, true, true, false, true, true, true, false, false, true, true, false, true, true, true, false, false, false] → Hid (AN w U w.heap.size p g) → wpAnyH ?xP ?xM ?xO ?xQ ?xS 8 L (Act.put (Act.put (Act.put ?xA (some 8) (.slice (some ⟨e5, 0, none⟩) 0 0)) (some 12) (.slice (some ⟨e9, 0, none⟩) 0 0)) (some 20) (.slice (some ⟨e17, 0, none⟩) 0 0)) U := by
    clear HA1 hS
    rintro e5 e9 e17 L U rfl HA 
    have hS := HCELL.out _ HA.out.box
    try simp only [Act.put, List.setIfInBounds_toArray, List.set_cons_zero, List.set_cons_succ]
    refine wpAnyH_ready (rs := [2, 13]) (by kernel_rfl) (by simp) ?_
    refine AllReadyH.cons (o := _) rfl (fun K' hK => ?_) (AllReadyH.cons (o := _) rfl (fun K' hK => ?_) (AllReadyH.nil))
    · go_simp
      refine (cpy_any p g U (HST.out.upK HA.out.b) HFI.out.1).mono ?_
      rintro en V ⟨C0, d0, rfl, hn, hbel⟩
      have HA' := Lib.hid (HA.out.next hbel)
      have HF0 : Hid (NewS kB (w.heap.size + 2) V C0 d0 g.mem) := Lib.hid (hn.base (by have := HA.out.res.lt; omega))
      clear hn hbel
      go_wp2_with fail
      refine hK.out _ _ (HCELL.out _ HA'.out.box) (fun hS => ?_)
      try simp only [Act.put, List.setIfInBounds_toArray, List.set_cons_zero, List.set_cons_succ]
      exact K1_1101 C0 d0 e5 e9 e17 _ _ (by kernel_rfl) HA' HF0
    · go_simp
      have HA' := Lib.hid (HA.out.next ((Below.refl U.heap.size U).alloc (Nat.le_refl _) (.cells #[] 4)))
      refine hK.out _ _ (HCELL.out _ HA'.out.box) (fun hS => ?_)
      try simp only [Act.put, List.setIfInBounds_toArray, List.set_cons_zero, List.set_cons_succ]
      exact K0_1111 e5 e9 U.heap.size e17 _ _ (by kernel_rfl) HA' 
  try simp only [Act.put, List.setIfInBounds_toArray, List.set_cons_zero, List.set_cons_succ] at K0_1101
  have K0_1110 : ∀ (e5 : Nat) (e9 : Nat) (e13 : Nat) (L : Array Bool) (U : World), L = #[true, true, false, true, true, true, true, true, false, true, true, true, false, true, true, true, false, false, true, true, false, false, false] → Hid (AN w U w.heap.size p g) → wpAnyH ?xP ?xM ?xO ?xQ ?xS 8 L (Act.put (Act.put (Act.put ?xA (some 8) (.slice (some ⟨e5, 0, none⟩) 0 0)) (some 12) (.slice (some ⟨e9, 0, none⟩) 0 0)) (some 16) (.slice (some ⟨e13, 0, none⟩) 0 0)) U := by
    clear HA1 hS
    rintro e5 e9 e13 L U rfl HA 
    have hS := HCELL.out _ HA.out.box
    try simp only [Act.put, List.setIfInBounds_toArray, List.set_cons_zero, List.set_cons_succ]
    refine wpAnyH_ready (rs := [2, 17]) (by kernel_rfl) (by simp) ?_
    refine AllReadyH.cons (o := _) rfl (fun K' hK => ?_) (AllReadyH.cons (o := _) rfl (fun K' hK => ?_) (AllReadyH.nil))
    · go_simp
      refine (cpy_any p g U (HST.out.upK HA.out.b) HFI.out.1).mono ?_
      rintro en V ⟨C0, d0, rfl, hn, hbel⟩
      have HA' := Lib.hid (HA.out.next hbel)
      have HF0 : Hid (NewS kB (w.heap.size + 2) V C0 d0 g.mem) := Lib.hid (hn.base (by have := HA.out.res.lt; omega))
      clear hn hbel
      go_wp2_with fail
      refine hK.out _ _ (HCELL.out _ HA'.out.box) (fun hS => ?_)
      try simp only [Act.put, List.setIfInBounds_toArray, List.set_cons_zero, List.set_cons_succ]
      exact K1_1110 C0 d0 e5 e9 e13 _ _ (by kernel_rfl) HA' HF0
    · go_simp
      have HA' := Lib.hid (HA.out.next ((Below.refl U.heap.size U).alloc (Nat.le_refl _) (.cells #[] 4)))
      refine hK.out _ _ (HCELL.out _ HA'.out.box) (fun hS => ?_)
      try simp only [Act.put, List.setIfInBounds_toArray, List.set_cons_zero, List.set_cons_succ]
      exact K0_1111 e5 e9 e13 U.heap.size _ _ (by kernel_rfl) HA' 
  try simp only [Act.put, List.setIfInBounds_toArray, List.set_cons_zero, List.set_cons_succ] at K0_1110
  have K0_0011 : ∀ (e13 : Nat) (e17 : Nat) (L : Array Bool) (U : World), L = #[true, true, false, true, true, false, true, true, false, false, true, true, false, true, true, true, false, true, true, true, false, false, false] → Hid (AN w U w.heap.size p g) → wpAnyH ?xP ?xM ?xO ?xQ ?xS 9 L (Act.put (Act.put ?xA (some 16) (.slice (some ⟨e13, 0, none⟩) 0 0)) (some 20) (.slice (some ⟨e17, 0, none⟩) 0 0)) U := by
    clear HA1 hS
    rintro e13 e17 L U rfl HA 
    have hS := HCELL.out _ HA.out.box
    try simp only [Act.put, List.setIfInBounds_toArray, List.set_cons_zero, List.set_cons_succ]
    refine wpAnyH_ready (rs := [2, 5, 9]) (by kernel_rfl) (by simp) ?_
    refine AllReadyH.cons (o := _) rfl (fun K' hK => ?_) (AllReadyH.cons (o := _) rfl (fun K' hK => ?_) (AllReadyH.cons (o := _) rfl (fun K' hK => ?_) (AllReadyH.nil)))
    · go_simp
      refine (cpy_any p g U (HST.out.upK HA.out.b) HFI.out.1).mono ?_
      rintro en V ⟨C0, d0, rfl, hn, hbel⟩
      have HA' := Lib.hid (HA.out.next hbel)
      have HF0 : Hid (NewS kB (w.heap.size + 2) V C0 d0 g.mem) := Lib.hid (hn.base (by have := HA.out.res.lt; omega))
      clear hn hbel
      go_wp2_with fail
      refine hK.out _ _ (HCELL.out _ HA'.out.box) (fun hS => ?_)
      try simp only [Act.put, List.setIfInBounds_toArray, List.set_cons_zero, List.set_cons_succ]
      exact K1_0011 C0 d0 e13 e17 _ _ (by kernel_rfl) HA' HF0
    · go_simp
      have HA' := Lib.hid (HA.out.next ((Below.refl U.heap.size U).alloc (Nat.le_refl _) (.cells #[] 3)))
      refine hK.out _ _ (HCELL.out _ HA'.out.box) (fun hS => ?_)
      try simp only [Act.put, List.setIfInBounds_toArray, List.set_cons_zero, List.set_cons_succ]
      exact K0_1011 U.heap.size e13 e17 _ _ (by kernel_rfl) HA' 
    · go_simp
      have HA' := Lib.hid (HA.out.next ((Below.refl U.heap.size U).alloc (Nat.le_refl _) (.cells #[] 28)))
      refine hK.out _ _ (HCELL.out _ HA'.out.box) (fun hS => ?_)
      try simp only [Act.put, List.setIfInBounds_toArray, List.set_cons_zero, List.set_cons_succ]
      exact K0_0111 U.heap.size e13 e17 _ _ (by kernel_rfl) HA' 
  try simp only [Act.put, List.setIfInBounds_toArray, List.set_cons_zero, List.set_cons_succ] at K0_0011
  have K0_0101 : ∀ (e9 : Nat) (e17 : Nat) (L : Array Bool) (U : World), L = #[true, true, false, true, true, false, true, true, false, true, true, true, false, false, true, true, false, true, true, true, false, false, false] → Hid (AN w U w.heap.size p g) → wpAnyH ?xP ?xM ?xO ?xQ ?xS 9 L (Act.put (Act.put ?xA (some 12) (.slice (some ⟨e9, 0, none⟩) 0 0)) (some 20) (.slice (some ⟨e17, 0, none⟩) 0 0)) U := by
    clear HA1 hS
    rintro e9 e17 L U rfl HA 
    have hS := HCELL.out _ HA.out.box
    try simp only [Act.put, List.setIfInBounds_toArray, List.set_cons_zero, List.set_cons_succ]
    refine wpAnyH_ready (rs := [2, 5, 13]) (by kernel_rfl) (by simp) ?_
    refine AllReadyH.cons (o := _) rfl (fun K' hK => ?_) (AllReadyH.cons (o := _) rfl (fun K' hK => ?_) (AllReadyH.cons (o := _) rfl (fun K' hK => ?_) (AllReadyH.nil)))
    · go_simp
      refine (cpy_any p g U (HST.out.upK HA.out.b) HFI.out.1).mono ?_
      rintro en V ⟨C0, d0, rfl, hn, hbel⟩
      have HA' := Lib.hid (HA.out.next hbel)
      have HF0 : Hid (NewS kB (w.heap.size + 2) V C0 d0 g.mem) := Lib.hid (hn.base (by have := HA.out.res.lt; omega))
      clear hn hbel
      go_wp2_with fail
      refine hK.out _ _ (HCELL.out _ HA'.out.box) (fun hS => ?_)
      try simp only [Act.put, List.setIfInBounds_toArray, List.set_cons_zero, List.set_cons_succ]
      exact K1_0101 C0 d0 e9 e17 _ _ (by kernel_rfl) HA' HF0
    · go_simp
      have HA' := Lib.hid (HA.out.next ((Below.refl U.heap.size U).alloc (Nat.le_refl _) (.cells #[] 3)))
      refine hK.out _ _ (HCELL.out _ HA'.out.box) (fun hS => ?_)
      try simp only [Act.put, List.setIfInBounds_toArray, List.set_cons_zero, List.set_cons_succ]
      exact K0_1101 U.heap.size e9 e17 _ _ (by kernel_rfl) HA' 
    · go_simp
      have HA' := Lib.hid (HA.out.next ((Below.refl U.heap.size U).alloc (Nat.le_refl _) (.cells #[] 4)))
      refine hK.out _ _ (HCELL.out _ HA'.out.box) (fun hS => ?_)
      try simp only [Act.put, List.setIfInBounds_toArray, List.set_cons_zero, List.set_cons_succ]
      exact K0_0111 e9 U.heap.size e17 _ _ (by kernel_rfl) HA' 
  try simp only [Act.put, List.setIfInBounds_toArray, List.set_cons_zero, List.set_cons_succ] at K0_0101
  have K0_1001 : ∀ (e5 : Nat) (e17 : Nat) (L : Array Bool) (U : World), L = #[true, true, false, true, true, true, true, true, false, false, true, true, false, false, true, true, false, true, true, true, false, false, false] → Hid (AN w U w.heap.size p g) → wpAnyH ?xP ?xM ?xO ?xQ ?xS 9 L (Act.put (Act.put ?xA (some 8) (.slice (some ⟨e5, 0, none⟩) 0 0)) (some 20) (.slice (some ⟨e17, 0, none⟩) 0 0)) U := by
    clear HA1 hS
    rintro e5 e17 L U rfl HA 
    have hS := HCELL.out _ HA.out.box
    try simp only [Act.put, List.setIfInBounds_toArray, List.set_cons_zero, List.set_cons_succ]
    refine wpAnyH_ready (rs := [2, 9, 13]) (by kernel_rfl) (by simp) ?_
    refine AllReadyH.cons (o := _) rfl (fun K' hK => ?_) (AllReadyH.cons (o := _) rfl (fun K' hK => ?_) (AllReadyH.cons (o := _) rfl (fun K' hK => ?_) (AllReadyH.nil)))
    · go_simp
      refine (cpy_any p g U (HST.out.upK HA.out.b) HFI.out.1).mono ?_
      rintro en V ⟨C0, d0, rfl, hn, hbel⟩
      have HA' := Lib.hid (HA.out.next hbel)
      have HF0 : Hid (NewS kB (w.heap.size + 2) V C0 d0 g.mem) := Lib.hid (hn.base (by have := HA.out.res.lt; omega))
      clear hn hbel
      go_wp2_with fail
      refine hK.out _ _ (HCELL.out _ HA'.out.box) (fun hS => ?_)
      try simp only [Act.put, List.setIfInBounds_toArray, List.set_cons_zero, List.set_cons_succ]
      exact K1_1001 C0 d0 e5 e17 _ _ (by kernel_rfl) HA' HF0
    · go_simp
      have HA' := Lib.hid (HA.out.next ((Below.refl U.heap.size U).alloc (Nat.le_refl _) (.cells #[] 28)))
      refine hK.out _ _ (HCELL.out _ HA'.out.box) (fun hS => ?_)
      try simp only [Act.put, List.setIfInBounds_toArray, List.set_cons_zero, List.set_cons_succ]
      exact K0_1101 e5 U.heap.size e17 _ _ (by kernel_rfl) HA' 
    · go_simp
      have HA' := Lib.hid (HA.out.next ((Below.refl U.heap.size U).alloc (Nat.le_refl _) (.cells #[] 4)))
      refine hK.out _ _ (HCELL.out _ HA'.out.box) (fun hS => ?_)
      try simp only [Act.put, List.setIfInBounds_toArray, List.set_cons_zero, List.set_cons_succ]
      exact K0_1011 e5 U.heap.size e17 _ _ (by kernel_rfl) HA' 
  try simp only [Act.put, List.setIfInBounds_toArray, List.set_cons_zero, List.set_cons_succ] at K0_1001
  have K0_0110 : ∀ (e9 : Nat) (e13 : Nat) (L : Array Bool) (U : World), L = #[true, true, false, true, true, false, true, true, false, true, true, true, false, true, true, true, false, false, true, true, false, false, false] → Hid (AN w U w.heap.size p g) → wpAnyH ?xP ?xM ?xO ?xQ ?xS 9 L (Act.put (Act.put ?xA (some 12) (.slice (some ⟨e9, 0, none⟩) 0 0)) (some 16) (.slice (some ⟨e13, 0, none⟩) 0 0)) U := by
    clear HA1 hS
    rintro e9 e13 L U rfl HA 
    have hS := HCELL.out _ HA.out.box
    try simp only [Act.put, List.setIfInBounds_toArray, List.set_cons_zero, List.set_cons_succ]
    refine wpAnyH_ready (rs := [2, 5, 17]) (by kernel_rfl) (by simp) ?_
    refine AllReadyH.cons (o := _) rfl (fun K' hK => ?_) (AllReadyH.cons (o := _) rfl (fun K' hK => ?_) (AllReadyH.cons (o := _) rfl (fun K' hK => ?_) (AllReadyH.nil)))
    · go_simp
      refine (cpy_any p g U (HST.out.upK HA.out.b) HFI.out.1).mono ?_
      rintro en V ⟨C0, d0, rfl, hn, hbel⟩
      have HA' := Lib.hid (HA.out.next hbel)
      have HF0 : Hid (NewS kB (w.heap.size + 2) V C0 d0 g.mem) := Lib.hid (hn.base (by have := HA.out.res.lt; omega))
      clear hn hbel
      go_wp2_with fail
      refine hK.out _ _ (HCELL.out _ HA'.out.box) (fun hS => ?_)
      try simp only [Act.put, List.setIfInBounds_toArray, List.set_cons_zero, List.set_cons_succ]
      exact K1_0110 C0 d0 e9 e13 _ _ (by kernel_rfl) HA' HF0
    · go_simp
      have HA' := Lib.hid (HA.out.next ((Below.refl U.heap.size U).alloc (Nat.le_refl _) (.cells #[] 3)))
      refine hK.out _ _ (HCELL.out _ HA'.out.box) (fun hS => ?_)
      try simp only [Act.put, List.setIfInBounds_toArray, List.set_cons_zero, List.set_cons_succ]
      exact K0_1110 U.heap.size e9 e13 _ _ (by kernel_rfl) HA' 
    · go_simp
      have HA' := Lib.hid (HA.out.next ((Below.refl U.heap.size U).alloc (Nat.le_refl _) (.cells #[] 4)))
      refine hK.out _ _ (HCELL.out _ HA'.out.box) (fun hS => ?_)
      try simp only [Act.put, List.setIfInBounds_toArray, List.set_cons_zero, List.set_cons_succ]
      exact K0_0111 e9 e13 U.heap.size _ _ (by kernel_rfl) HA' 
  try simp only [Act.put, List.setIfInBounds_toArray, List.set_cons_zero, List.set_cons_succ] at K0_0110
  have K0_1010 : ∀ (e5 : Nat) (e13 : Nat) (L : Array Bool) (U : World), L = #[true, true, false, true, true, true, true, true, false, false, true, true, false, true, true, true, false, false, true, true, false, false, false] → Hid (AN w U w.heap.size p g) → wpAnyH ?xP ?xM ?xO ?xQ ?xS 9 L (Act.put (Act.put ?xA (some 8) (.slice (some ⟨e5, 0, none⟩) 0 0)) (some 16) (.slice (some ⟨e13, 0, none⟩) 0 0)) U := by
    clear HA1 hS
    rintro e5 e13 L U rfl HA 
    have hS := HCELL.out _ HA.out.box
    try simp only [Act.put, List.setIfInBounds_toArray, List.set_cons_zero, List.set_cons_succ]
    refine wpAnyH_ready (rs := [2, 9, 17]) (by kernel_rfl) (by simp) ?_
    refine AllReadyH.cons (o := _) rfl (fun K' hK => ?_) (AllReadyH.cons (o := _) rfl (fun K' hK => ?_) (AllReadyH.cons (o := _) rfl (fun K' hK => ?_) (AllReadyH.nil)))
    · go_simp
      refine (cpy_any p g U (HST.out.upK HA.out.b) HFI.out.1).mono ?_
      rintro en V ⟨C0, d0, rfl, hn, hbel⟩
      have HA' := Lib.hid (HA.out.next hbel)
      have HF0 : Hid (NewS kB (w.heap.size + 2) V C0 d0 g.mem) := Lib.hid (hn.base (by have := HA.out.res.lt; omega))
      clear hn hbel
      go_wp2_with fail
      refine hK.out _ _ (HCELL.out _ HA'.out.box) (fun hS => ?_)
      try simp only [Act.put, List.setIfInBounds_toArray, List.set_cons_zero, List.set_cons_succ]
      exact K1_1010 C0 d0 e5 e13 _ _ (by kernel_rfl) HA' HF0
    · go_simp
      have HA' := Lib.hid (HA.out.next ((Below.refl U.heap.size U).alloc (Nat.le_refl _) (.cells #[] 28)))
      refine hK.out _ _ (HCELL.out _ HA'.out.box) (fun hS => ?_)
      try simp only [Act.put, List.setIfInBounds_toArray, List.set_cons_zero, List.set_cons_succ]
      exact K0_1110 e5 U.heap.size e13 _ _ (by kernel_rfl) HA' 
    · go_simp
      have HA' := Lib.hid (HA.out.next ((Below.refl U.heap.size U).alloc (Nat.le_refl _) (.cells #[] 4)))
      refine hK.out _ _ (HCELL.out _ HA'.out.box) (fun hS => ?_)
      try simp only [Act.put, List.setIfInBounds_toArray, List.set_cons_zero, List.set_cons_succ]
      exact K0_1011 e5 e13 U.heap.size _ _ (by kernel_rfl) HA' 
  try simp only [Act.put, List.setIfInBounds_toArray, List.set_cons_zero, List.set_cons_succ] at K0_1010
  have K0_1100 : ∀ (e5 : Nat) (e9 : Nat) (L : Array Bool) (U : World), L = #[true, true, false, true, true, true, true, true, false, true, true, true, false, false, true, true, false, false, true, true, false, false, false] → Hid (AN w U w.heap.size p g) → wpAnyH ?xP ?xM ?xO ?xQ ?xS 9 L (Act.put (Act.put ?xA (some 8) (.slice (some ⟨e5, 0, none⟩) 0 0)) (some 12) (.slice (some ⟨e9, 0, none⟩) 0 0)) U := by
    clear HA1 hS
    rintro e5 e9 L U rfl HA 
    have hS := HCELL.out _ HA.out.box
    try simp only [Act.put, List.setIfInBounds_toArray, List.set_cons_zero, List.set_cons_succ]
    refine wpAnyH_ready (rs := [2, 13, 17]) (by kernel_rfl) (by simp) ?_
    refine AllReadyH.cons (o := _) rfl (fun K' hK => ?_) (AllReadyH.cons (o := _) rfl (fun K' hK => ?_) (AllReadyH.cons (o := _) rfl (fun K' hK => ?_) (AllReadyH.nil)))
    · go_simp
      refine (cpy_any p g U (HST.out.upK HA.out.b) HFI.out.1).mono ?_
      rintro en V ⟨C0, d0, rfl, hn, hbel⟩
      have HA' := Lib.hid (HA.out.next hbel)
      have HF0 : Hid (NewS kB (w.heap.size + 2) V C0 d0 g.mem) := Lib.hid (hn.base (by have := HA.out.res.lt; omega))
      clear hn hbel
      go_wp2_with fail
      refine hK.out _ _ (HCELL.out _ HA'.out.box) (fun hS => ?_)
      try simp only [Act.put, List.setIfInBounds_toArray, List.set_cons_zero, List.set_cons_succ]
      exact K1_1100 C0 d0 e5 e9 _ _ (by kernel_rfl) HA' HF0
    · go_simp
      have HA' := Lib.hid (HA.out.next ((Below.refl U.heap.size U).alloc (Nat.le_refl _) (.cells #[] 4)))
      refine hK.out _ _ (HCELL.out _ HA'.out.box) (fun hS => ?_)
      try simp only [Act.put, List.setIfInBounds_toArray, List.set_cons_zero, List.set_cons_succ]
      exact K0_1110 e5 e9 U.heap.size _ _ (by kernel_rfl) HA' 
    · go_simp
      have HA' := Lib.hid (HA.out.next ((Below.refl U.heap.size U).alloc (Nat.le_refl _) (.cells #[] 4)))
      refine hK.out _ _ (HCELL.out _ HA'.out.box) (fun hS => ?_)
      try simp only [Act.put, List.setIfInBounds_toArray, List.set_cons_zero, List.set_cons_succ]
      exact K0_1101 e5 e9 U.heap.size _ _ (by kernel_rfl) HA' 
  try simp only [Act.put, List.setIfInBounds_toArray, List.set_cons_zero, List.set_cons_succ] at K0_1100
  have K0_0001 : ∀ (e17 : Nat) (L : Array Bool) (U : World), L = #[true, true, false, true, true, false, true, true, false, false, true, true, false, false, true, true, false, true, true, true, false, false, false] → Hid (AN w U w.heap.size p g) → wpAnyH ?xP ?xM ?xO ?xQ ?xS 10 L (Act.put ?xA (some 20) (.slice (some ⟨e17, 0, none⟩) 0 0)) U := by
    clear HA1 hS
    rintro e17 L U rfl HA 
    have hS := HCELL.out _ HA.out.box
    try simp only [Act.put, List.setIfInBounds_toArray, List.set_cons_zero, List.set_cons_succ]
    refine wpAnyH_ready (rs := [2, 5, 9, 13]) (by kernel_rfl) (by simp) ?_
    refine AllReadyH.cons (o := _) rfl (fun K' hK => ?_) (AllReadyH.cons (o := _) rfl (fun K' hK => ?_) (AllReadyH.cons (o := _) rfl (fun K' hK => ?_) (AllReadyH.cons (o := _) rfl (fun K' hK => ?_) (AllReadyH.nil))))
    · go_simp
      refine (cpy_any p g U (HST.out.upK HA.out.b) HFI.out.1).mono ?_
      rintro en V ⟨C0, d0, rfl, hn, hbel⟩
      have HA' := Lib.hid (HA.out.next hbel)
      have HF0 : Hid (NewS kB (w.heap.size + 2) V C0 d0 g.mem) := Lib.hid (hn.base (by have := HA.out.res.lt; omega))
      clear hn hbel
      go_wp2_with fail
      refine hK.out _ _ (HCELL.out _ HA'.out.box) (fun hS => ?_)
      try simp only [Act.put, List.setIfInBounds_toArray, List.set_cons_zero, List.set_cons_succ]
      exact K1_0001 C0 d0 e17 _ _ (by kernel_rfl) HA' HF0
    · go_simp
      have HA' := Lib.hid (HA.out.next ((Below.refl U.heap.size U).alloc (Nat.le_refl _) (.cells #[] 3)))
      refine hK.out _ _ (HCELL.out _ HA'.out.box) (fun hS => ?_)
      try simp only [Act.put, List.setIfInBounds_toArray, List.set_cons_zero, List.set_cons_succ]
      exact K0_1001 U.heap.size e17 _ _ (by kernel_rfl) HA' 
    · go_simp
      have HA' := Lib.hid (HA.out.next ((Below.refl U.heap.size U).alloc (Nat.le_refl _) (.cells #[] 28)))
      refine hK.out _ _ (HCELL.out _ HA'.out.box) (fun hS => ?_)
      try simp only [Act.put, List.setIfInBounds_toArray, List.set_cons_zero, List.set_cons_succ]
      exact K0_0101 U.heap.size e17 _ _ (by kernel_rfl) HA' 
    · go_simp
      have HA' := Lib.hid (HA.out.next ((Below.refl U.heap.size U).alloc (Nat.le_refl _) (.cells #[] 4)))
      refine hK.out _ _ (HCELL.out _ HA'.out.box) (fun hS => ?_)
      try simp only [Act.put, List.setIfInBounds_toArray, List.set_cons_zero, List.set_cons_succ]
      exact K0_0011 U.heap.size e17 _ _ (by kernel_rfl) HA' 
  try simp only [Act.put, List.setIfInBounds_toArray, List.set_cons_zero, List.set_cons_succ] at K0_0001
  have K0_0010 : ∀ (e13 : Nat) (L : Array Bool) (U : World), L = #[true, true, false, true, true, false, true, true, false, false, true, true, false, true, true, true, false, false, true, true, false, false, false] → Hid (AN w U w.heap.size p g) → wpAnyH ?xP ?xM ?xO ?xQ ?xS 10 L (Act.put ?xA (some 16) (.slice (some ⟨e13, 0, none⟩) 0 0)) U := by
    clear HA1 hS
    rintro e13 L U rfl HA 
    have hS := HCELL.out _ HA.out.box
    try simp only [Act.put, List.setIfInBounds_toArray, List.set_cons_zero, List.set_cons_succ]
    refine wpAnyH_ready (rs := [2, 5, 9, 17]) (by kernel_rfl) (by simp) ?_
    refine AllReadyH.cons (o := _) rfl (fun K' hK => ?_) (AllReadyH.cons (o := _) rfl (fun K' hK => ?_) (AllReadyH.cons (o := _) rfl (fun K' hK => ?_) (AllReadyH.cons (o := _) rfl (fun K' hK => ?_) (AllReadyH.nil))))
    · go_simp
      refine (cpy_any p g U (HST.out.upK HA.out.b) HFI.out.1).mono ?_
      rintro en V ⟨C0, d0, rfl, hn, hbel⟩
      have HA' := Lib.hid (HA.out.next hbel)
      have HF0 : Hid (NewS kB (w.heap.size + 2) V C0 d0 g.mem) := Lib.hid (hn.base (by have := HA.out.res.lt; omega))
      clear hn hbel
      go_wp2_with fail
      refine hK.out _ _ (HCELL.out _ HA'.out.box) (fun hS => ?_)
      try simp only [Act.put, List.setIfInBounds_toArray, List.set_cons_zero, List.set_cons_succ]
      exact K1_0010 C0 d0 e13 _ _ (by kernel_rfl) HA' HF0
    · go_simp
      have HA' := Lib.hid (HA.out.next ((Below.refl U.heap.size U).alloc (Nat.le_refl _) (.cells #[] 3)))
      refine hK.out _ _ (HCELL.out _ HA'.out.box) (fun hS => ?_)
      try simp only [Act.put, List.setIfInBounds_toArray, List.set_cons_zero, List.set_cons_succ]
      exact K0_1010 U.heap.size e13 _ _ (by kernel_rfl) HA' 
    · go_simp
      have HA' := Lib.hid (HA.out.next ((Below.refl U.heap.size U).alloc (Nat.le_refl _) (.cells #[] 28)))
      refine hK.out _ _ (HCELL.out _ HA'.out.box) (fun hS => ?_)
      try simp only [Act.put, List.setIfInBounds_toArray, List.set_cons_zero, List.set_cons_succ]
      exact K0_0110 U.heap.size e13 _ _ (by kernel_rfl) HA' 
    · go_simp
      have HA' := Lib.hid (HA.out.next ((Below.refl U.heap.size U).alloc (Nat.le_refl _) (.cells #[] 4)))
      refine hK.out _ _ (HCELL.out _ HA'.out.box) (fun hS => ?_)
      try simp only [Act.put, List.setIfInBounds_toArray, List.set_cons_zero, List.set_cons_succ]
      exact K0_0011 e13 U.heap.size _ _ (by kernel_rfl) HA' 
  try simp only [Act.put, List.setIfInBounds_toArray, List.set_cons_zero, List.set_cons_succ] at K0_0010
  have K0_0100 : ∀ (e9 : Nat) (L : Array Bool) (U : World), L = #[true, true, false, true, true, false, true, true, false, true, true, true, false, false, true, true, false, false, true, true, false, false, false] → Hid (AN w U w.heap.size p g) → wpAnyH ?xP ?xM ?xO ?xQ ?xS 10 L (Act.put ?xA (some 12) (.slice (some ⟨e9, 0, none⟩) 0 0)) U := by
    clear HA1 hS
    rintro e9 L U rfl HA 
    have hS := HCELL.out _ HA.out.box
    try simp only [Act.put, List.setIfInBounds_toArray, List.set_cons_zero, List.set_cons_succ]
    refine wpAnyH_ready (rs := [2, 5, 13, 17]) (by kernel_rfl) (by simp) ?_
    refine AllReadyH.cons (o := _) rfl (fun K' hK => ?_) (AllReadyH.cons (o := _) rfl (fun K' hK => ?_) (AllReadyH.cons (o := _) rfl (fun K' hK => ?_) (AllReadyH.cons (o := _) rfl (fun K' hK => ?_) (AllReadyH.nil))))
    · go_simp
      refine (cpy_any p g U (HST.out.upK HA.out.b) HFI.out.1).mono ?_
      rintro en V ⟨C0, d0, rfl, hn, hbel⟩
      have HA' := Lib.hid (HA.out.next hbel)
      have HF0 : Hid (NewS kB (w.heap.size + 2) V C0 d0 g.mem) := Lib.hid (hn.base (by have := HA.out.res.lt; omega))
      clear hn hbel
      go_wp2_with fail
      refine hK.out _ _ (HCELL.out _ HA'.out.box) (fun hS => ?_)
      try simp only [Act.put, List.setIfInBounds_toArray, List.set_cons_zero, List.set_cons_succ]
      exact K1_0100 C0 d0 e9 _ _ (by kernel_rfl) HA' HF0
    · go_simp
      have HA' := Lib.hid (HA.out.next ((Below.refl U.heap.size U).alloc (Nat.le_refl _) (.cells #[] 3)))
      refine hK.out _ _ (HCELL.out _ HA'.out.box) (fun hS => ?_)
      try simp only [Act.put, List.setIfInBounds_toArray, List.set_cons_zero, List.set_cons_succ]
      exact K0_1100 U.heap.size e9 _ _ (by kernel_rfl) HA' 
    · go_simp
      have HA' := Lib.hid (HA.out.next ((Below.refl U.heap.size U).alloc (Nat.le_refl _) (.cells #[] 4)))
      refine hK.out _ _ (HCELL.out _ HA'.out.box) (fun hS => ?_)
      try simp only [Act.put, List.setIfInBounds_toArray, List.set_cons_zero, List.set_cons_succ]
      exact K0_0110 e9 U.heap.size _ _ (by kernel_rfl) HA' 
    · go_simp
      have HA' := Lib.hid (HA.out.next ((Below.refl U.heap.size U).alloc (Nat.le_refl _) (.cells #[] 4)))
      refine hK.out _ _ (HCELL.out _ HA'.out.box) (fun hS => ?_)
      try simp only [Act.put, List.setIfInBounds_toArray, List.set_cons_zero, List.set_cons_succ]
      exact K0_0101 e9 U.heap.size _ _ (by kernel_rfl) HA' 
  try simp only [Act.put, List.setIfInBounds_toArray, List.set_cons_zero, List.set_cons_succ] at K0_0100
  have K0_1000 : ∀ (e5 : Nat) (L : Array Bool) (U : World), L = #[true, true, false, true, true, true, true, true, false, false, true, true, false, false, true, true, false, false, true, true, false, false, false] → Hid (AN w U w.heap.size p g) → wpAnyH ?xP ?xM ?xO ?xQ ?xS 10 L (Act.put ?xA (some 8) (.slice (some ⟨e5, 0, none⟩) 0 0)) U := by
    clear HA1 hS
    rintro e5 L U rfl HA 
    have hS := HCELL.out _ HA.out.box
    try simp only [Act.put, List.setIfInBounds_toArray, List.set_cons_zero, List.set_cons_succ]
    refine wpAnyH_ready (rs := [2, 9, 13, 17]) (by kernel_rfl) (by simp) ?_
    refine AllReadyH.cons (o := _) rfl (fun K' hK => ?_) (AllReadyH.cons (o := _) rfl (fun K' hK => ?_) (AllReadyH.cons (o := _) rfl (fun K' hK => ?_) (AllReadyH.cons (o := _) rfl (fun K' hK => ?_) (AllReadyH.nil))))
    · go_simp
      refine (cpy_any p g U (HST.out.upK HA.out.b) HFI.out.1).mono ?_
      rintro en V ⟨C0, d0, rfl, hn, hbel⟩
      have HA' := Lib.hid (HA.out.next hbel)
      have HF0 : Hid (NewS kB (w.heap.size + 2) V C0 d0 g.mem) := Lib.hid (hn.base (by have := HA.out.res.lt; omega))
      clear hn hbel
      go_wp2_with fail
      refine hK.out _ _ (HCELL.out _ HA'.out.box) (fun hS => ?_)
      try simp only [Act.put, List.setIfInBounds_toArray, List.set_cons_zero, List.set_cons_succ]
      exact K1_1000 C0 d0 e5 _ _ (by kernel_rfl) HA' HF0
    · go_simp
      have HA' := Lib.hid (HA.out.next ((Below.refl U.heap.size U).alloc (Nat.le_refl _) (.cells #[] 28)))
      refine hK.out _ _ (HCELL.out _ HA'.out.box) (fun hS => ?_)
      try simp only [Act.put, List.setIfInBounds_toArray, List.set_cons_zero, List.set_cons_succ]
      exact K0_1100 e5 U.heap.size _ _ (by kernel_rfl) HA' 
    · go_simp
      have HA' := Lib.hid (HA.out.next ((Below.refl U.heap.size U).alloc (Nat.le_refl _) (.cells #[] 4)))
      refine hK.out _ _ (HCELL.out _ HA'.out.box) (fun hS => ?_)
      try simp only [Act.put, List.setIfInBounds_toArray, List.set_cons_zero, List.set_cons_succ]
      exact K0_1010 e5 U.heap.size _ _ (by kernel_rfl) HA' 
    · go_simp
      have HA' := Lib.hid (HA.out.next ((Below.refl U.heap.size U).alloc (Nat.le_refl _) (.cells #[] 4)))
      refine hK.out _ _ (HCELL.out _ HA'.out.box) (fun hS => ?_)
      try simp only [Act.put, List.setIfInBounds_toArray, List.set_cons_zero, List.set_cons_succ]
      exact K0_1001 e5 U.heap.size _ _ (by kernel_rfl) HA' 
  try simp only [Act.put, List.setIfInBounds_toArray, List.set_cons_zero, List.set_cons_succ] at K0_1000
  have K0_0000 : ∀  (L : Array Bool) (U : World), L = #[true, true, false, true, true, false, true, true, false, false, true, true, false, false, true, true, false, false, true, true, false, false, false] → Hid (AN w U w.heap.size p g) → wpAnyH ?xP ?xM ?xO ?xQ ?xS 11 L ?xA U := by
    clear HA1 hS
    rintro  L U rfl HA 
    have hS := HCELL.out _ HA.out.box
    try simp only [Act.put, List.setIfInBounds_toArray, List.set_cons_zero, List.set_cons_succ]
    refine wpAnyH_ready (rs := [2, 5, 9, 13, 17]) (by kernel_rfl) (by simp) ?_
    refine AllReadyH.cons (o := _) rfl (fun K' hK => ?_) (AllReadyH.cons (o := _) rfl (fun K' hK => ?_) (AllReadyH.cons (o := _) rfl (fun K' hK => ?_) (AllReadyH.cons (o := _) rfl (fun K' hK => ?_) (AllReadyH.cons (o := _) rfl (fun K' hK => ?_) (AllReadyH.nil)))))
    · go_simp
      refine (cpy_any p g U (HST.out.upK HA.out.b) HFI.out.1).mono ?_
      rintro en V ⟨C0, d0, rfl, hn, hbel⟩
      have HA' := Lib.hid (HA.out.next hbel)
      have HF0 : Hid (NewS kB (w.heap.size + 2) V C0 d0 g.mem) := Lib.hid (hn.base (by have := HA.out.res.lt; omega))
      clear hn hbel
      go_wp2_with fail
      refine hK.out _ _ (HCELL.out _ HA'.out.box) (fun hS => ?_)
      try simp only [Act.put, List.setIfInBounds_toArray, List.set_cons_zero, List.set_cons_succ]
      exact K1_0000 C0 d0 _ _ (by kernel_rfl) HA' HF0
    · go_simp
      have HA' := Lib.hid (HA.out.next ((Below.refl U.heap.size U).alloc (Nat.le_refl _) (.cells #[] 3)))
      refine hK.out _ _ (HCELL.out _ HA'.out.box) (fun hS => ?_)
      try simp only [Act.put, List.setIfInBounds_toArray, List.set_cons_zero, List.set_cons_succ]
      exact K0_1000 U.heap.size _ _ (by kernel_rfl) HA' 
    · go_simp
      have HA' := Lib.hid (HA.out.next ((Below.refl U.heap.size U).alloc (Nat.le_refl _) (.cells #[] 28)))
      refine hK.out _ _ (HCELL.out _ HA'.out.box) (fun hS => ?_)
      try simp only [Act.put, List.setIfInBounds_toArray, List.set_cons_zero, List.set_cons_succ]
      exact K0_0100 U.heap.size _ _ (by kernel_rfl) HA' 
    · go_simp
      have HA' := Lib.hid (HA.out.next ((Below.refl U.heap.size U).alloc (Nat.le_refl _) (.cells #[] 4)))
      refine hK.out _ _ (HCELL.out _ HA'.out.box) (fun hS => ?_)
      try simp only [Act.put, List.setIfInBounds_toArray, List.set_cons_zero, List.set_cons_succ]
      exact K0_0010 U.heap.size _ _ (by kernel_rfl) HA' 
    · go_simp
      have HA' := Lib.hid (HA.out.next ((Below.refl U.heap.size U).alloc (Nat.le_refl _) (.cells #[] 4)))
      refine hK.out _ _ (HCELL.out _ HA'.out.box) (fun hS => ?_)
      try simp only [Act.put, List.setIfInBounds_toArray, List.set_cons_zero, List.set_cons_succ]
      exact K0_0001 U.heap.size _ _ (by kernel_rfl) HA' 
  try simp only [Act.put, List.setIfInBounds_toArray, List.set_cons_zero, List.set_cons_succ] at K0_0000
  exact K0_0000  _ _ (by kernel_rfl) HA1 
end Go.Proofs.Ytdcolpmmojiffaa.Sto
