/-
  sect.first: one section of bytes that aren't empty. Conditions: the bytes lie below the order's block.
-/
import Derived.Test.YtelcoeeijkainaaDoorSecClone
import Derived.Test.YtelcoeeijkainaaDoorSecRSplit
namespace Go.Proofs.YtelcoeeijkainaaDoor.Sec
open Go.RowKit Leb

theorem by_set_new {w W : World} {r b i : Nat} {u : Value} (h : w.grownBy W (some r)) (hb : w.heap.size ≤ b) : w.grownBy (W.setCell ⟨b, i, none⟩ u) (some r) :=
  ⟨h.os, h.tape, h.output, by simpa using h.size, fun k hk hne => (Below.heap_setCell _ _ _ _ (by simp; omega)).trans (h.block k hk hne)⟩
theorem OrdAt.other {w : World} {r b i : Nat} {last : Int} {u : Value} (h : OrdAt w r last) (hb : b ≠ r) : OrdAt (w.setCell ⟨b, i, none⟩ u) r last := h.step (by simp) (Below.heap_setCell _ _ _ _ (by simp; omega))
theorem own_set {w : World} {base b i : Nat} {v u : Value} {l : List Nat} (h : Own w base v l) (hb : b < base) : Own (w.setCell ⟨b, i, none⟩ u) base v l := rowSame h fun k e => Below.heap_setCell _ _ _ _ (by have := (World.ownsRow.lt h k e).1; simp; omega)
theorem by_mem {w W : World} {B r : Nat} (h : w.grownBy W (some r)) (hB : B ≤ w.heap.size) (hr : B ≤ r) : Below B w W := (Below.refl _ _).grown h hB (fun i e => by injection e with e; omega)
/-- An error. -/
def FirstBad (w : World) (r k : Nat) (e : Ending) (w' : World) : Prop := e = .returned (.tuple #[.agg #[.int .i64 0, .slice none 0 0], .int .i64 0, .int .i64 (k : Int)]) ∧ w.grownBy w' (some r)
/-- A section. -/
def FirstOk (w : World) (r y n u : Nat) (last : Int) (sg : List Nat) (e : Ending) (w' : World) : Prop :=
  ∃ A c, e = .returned (.tuple #[.agg #[.int .i64 (y : Int), .slice A u c], .int .i64 (n : Int), .int .i64 0]) ∧ OrdAt w' r last ∧ w.grownBy w' (some r) ∧ Bytes w' w'.heap.size A sg ∧ u ≤ c ∧ (A = none → c = 0) ∧ ∀ a, A = some a → w.heap.size ≤ a.block
/-- What first answers. -/
def FirstIs (w : World) (r : Nat) (last : Int) (l : List Nat) (e : Ending) (w' : World) : Prop :=
  if takeB last (l.getD 0 0 : Nat) = false then FirstBad w r 2 e w'
  else if (uRes (l.drop 1) 32).2.2 ≠ 0 then FirstBad w r (uRes (l.drop 1) 32).2.2 e w'
  else if l.length - (1 + (uRes (l.drop 1) 32).2.1) < (uRes (l.drop 1) 32).1 then FirstBad w r 1 e w'
  else FirstOk w r (l.getD 0 0) (1 + (uRes (l.drop 1) 32).2.1 + (uRes (l.drop 1) 32).1) (uRes (l.drop 1) 32).1 (takeL last (l.getD 0 0 : Nat)) ((l.drop (1 + (uRes (l.drop 1) 32).2.1)).take (uRes (l.drop 1) 32).1) e w'
theorem first_sums (n s u q d x : Nat) (hn : (n : Int) ≤ 65536) (hs : 1 ≤ s ∧ s ≤ n - 1) (hu : u < 4294967296) (e2 : 1 + s = q) (e3 : n - q = d) (e4 : q + u = x) :
    wrap64 (1 + (s : Int)) = (q : Int) ∧ wrap64 ((n : Int) - (q : Int)) = (d : Int) ∧ IntKind.u64.wrap (d : Int) = (d : Int) ∧ wrap64 (u : Int) = (u : Int) ∧ wrap64 ((q : Int) + (u : Int)) = (x : Int) := by
  have h1 : 1 + (s : Int) = (q : Int) := by omega
  have h3 : (n : Int) - (q : Int) = (d : Int) := by omega
  have h7 : (q : Int) + (u : Int) = (x : Int) := by omega
  rw [h1, h3, h7]
  have h6 : (d : Int) ≤ 65536 := by omega
  have h4 : (q : Int) ≤ 65536 := by omega
  have h8 : (x : Int) ≤ 4295032832 := by omega
  have h9 : (u : Int) ≤ 4294967296 := by omega
  exact ⟨IntWalk.wrap64_in _ (by omega), IntWalk.wrap64_in _ (by omega), IntWalk.u64_in _ (by omega), IntWalk.wrap64_in _ (by omega), IntWalk.wrap64_in _ (by omega)⟩
/-- The box that the result lies in. -/
def Box (w : World) (b : Nat) : Prop := b < w.heap.size ∧ w.cell? ⟨b, 0, none⟩ = some (.int .i64 0) ∧ w.cell? ⟨b, 1, none⟩ = some (.slice none 0 0) ∧ w.frozen? ⟨b, 0, none⟩ = false ∧ w.frozen? ⟨b, 1, none⟩ = false
theorem Box.step {w w' : World} {b : Nat} (h : Box w b) (hs : w.heap.size ≤ w'.heap.size) (hh : w'.heap[b]? = w.heap[b]?) : Box w' b := by
  obtain ⟨h0, h1, h2, h3, h4⟩ := h
  have C : ∀ i, w'.cell? ⟨b, i, none⟩ = w.cell? ⟨b, i, none⟩ := fun i => World.cell?_of_block hh
  have F : ∀ i, w'.frozen? ⟨b, i, none⟩ = w.frozen? ⟨b, i, none⟩ := fun i => World.frozen?_of_block hh
  exact ⟨Nat.lt_of_lt_of_le h0 hs, (C _).trans h1, (C _).trans h2, (F _).trans h3, (F _).trans h4⟩
theorem Box.keep {w w' : World} {b : Nat} (h : Box w b) (hb : Below w.heap.size w w') : Box w' b := h.step hb.size (hb.block _ h.1)
theorem Box.new (w : World) (t : TypeId) : Box (w.alloc (.cells #[.int .i64 0, .slice none 0 0] t)) w.heap.size := ⟨by simp, by simp, by simp, by simp, by simp⟩
set_option maxHeartbeats 1000000 in
set_option maxRecDepth 100000 in
theorem first_any (A : Option Addr) (l : List Nat) (c B r : Nat) (last : Int) (w : World) (hs : Slc w B A c l) (hl : (l.length : Int) ≤ 65536) (h0 : 0 < l.length) (hB : B ≤ w.heap.size) (hr : B ≤ r) (ho : OrdAt w r last) :
    Calls Tryd.prog 21 #[.slice A l.length c, .pointer (some ⟨r, 0, none⟩)] w (FirstIs w r last l) := by
  have h1 : l.getD 0 0 = l[0] := by simp [List.getD, h0]
  obtain ⟨b, off, rfl, hb, hc⟩ := hs.bytes.2 h0
  have q0 := hc 0 h0
  rw [Nat.add_zero] at q0
  have hy := hs.bytes.1 _ (List.getElem_mem h0)
  have hyi : ((l[0] : Nat) : Int) < 256 := by omega
  have HS := Lib.hid hs
  have h0i : (0 : Int) < (l.length : Int) := by omega
  have hg1 : w.grownBy (w.alloc (.cells #[.int .i64 0, .slice none 0 0] 38)) (some r) := by_below ((Below.refl _ _).alloc (Nat.le_refl _) _) _
  have q1 : (w.alloc (.cells #[.int .i64 0, .slice none 0 0] 38)).cell? ⟨b, off, none⟩ = some (.int .u8 (l[0] : Nat)) := (((Below.refl w.heap.size w).alloc (Nat.le_refl _) _).cell (p := ⟨b, off, none⟩) (by show b < w.heap.size; omega)).trans q0
  have HO1 := ho.keep ((Below.refl _ _).alloc (Nat.le_refl _) (.cells #[.int .i64 0, .slice none 0 0] 38))
  have HT := Lib.hid (take_any _ r last (l[0] : Nat) HO1)
  have HBX := Lib.hid (Box.new w 38)
  have HG1 := Lib.hid hg1
  have HRL : Hid (r < w.heap.size ∧ B ≤ w.heap.size ∧ B ≤ r) := Lib.hid ⟨ho.lt, hB, hr⟩
  obtain ⟨A2, c2, HSL, hB2⟩ := slice_at (some ⟨b, off, none⟩) l c 1 B w hs h0
  rw [show ((1 : Nat) : Int) = 1 from rfl] at HSL
  have HLI := Lib.hid hl
  obtain ⟨u, s, e, hu⟩ : ∃ u s e, uRes (l.drop 1) 32 = (u, s, e) := ⟨_, _, _, rfl⟩
  have HU : Hid (∀ W, Below B w W → Calls Tryd.prog 22 #[.slice A2 (l.length - 1) c2, .int .i64 32] W fun e1 w' => e1 = .returned (.tuple #[.int .u64 (u : Int), .int .i64 (s : Int), .int .i64 (e : Int)]) ∧ ∃ m, w' = W.drewN m) := Lib.hid fun W hW => by
    have h := U_any A2 (l.drop 1) c2 B 32 W (hB2 W (hs.below hW)).bytes (by omega) (by omega)
    rw [hu, List.length_drop, show ((32 : Nat) : Int) = 32 from rfl] at h
    exact h
  have HQ2 : Hid (takeB last (l[0] : Nat) = false → ∀ e1 w', FirstBad w r 2 e1 w' → FirstIs w r last l e1 w') := Lib.hid fun ht e1 w' h => by unfold FirstIs; rw [h1, if_pos ht]; exact h
  have HQE : Hid (takeB last (l[0] : Nat) = true → e ≠ 0 → ∀ e1 w', FirstBad w r e e1 w' → FirstIs w r last l e1 w') := Lib.hid fun ht he e1 w' h => by unfold FirstIs; rw [h1, if_neg (by rw [ht]; simp), hu, if_pos he]; exact h
  have HQ1 : Hid (takeB last (l[0] : Nat) = true → e = 0 → l.length - (1 + s) < u → ∀ e1 w', FirstBad w r 1 e1 w' → FirstIs w r last l e1 w') := Lib.hid fun ht he hl e1 w' h => by unfold FirstIs; rw [h1, if_neg (by rw [ht]; simp), hu, if_neg (by simp [he]), if_pos hl]; exact h
  have HQK : Hid (takeB last (l[0] : Nat) = true → e = 0 → ¬ l.length - (1 + s) < u → ∀ e1 w', FirstOk w r l[0] (1 + s + u) u (takeL last (l[0] : Nat)) ((l.drop (1 + s)).take u) e1 w' → FirstIs w r last l e1 w') := Lib.hid fun ht he hl e1 w' h => by unfold FirstIs; rw [h1, if_neg (by rw [ht]; simp), hu, if_neg (by simp [he]), if_neg hl]; exact h
  have HUR := Lib.hid hu
  clear hc hs ho hg1 HO1 hB2 h1 hB hr hu
  generalize FirstIs w r last l = Q at *
  generalize l[0] = y at *
  by_cases ht : takeB last (y : Int) = false
  · rw [ht] at HT
    have HQ := Lib.hid (HQ2.out ht)
    clear HU HUR HSL HQ2 HQE HQ1 HQK ht
    go_enter Tryd.func21, Tryd.ntmps21
    go_wp2_with fail
    refine HT.out.mono ?_
    rintro e1 w2 ⟨rfl, ho2, hg2⟩
    have hbx : Box w2 w.heap.size := HBX.out.step hg2.size (hg2.block _ HBX.out.1 (by have := HRL.out.1; intro e; injection e with e; omega))
    obtain ⟨b0, b1, b2, b3, b4⟩ := hbx
    have HF := Lib.hid (by_trans HG1.out hg2)
    clear hg2 ho2 HT HBX HG1 HRL
    go_wp2
    refine bodyPost_ret (v := .tuple #[.agg #[.int .i64 0, .slice none 0 0], .int .i64 0, .int .i64 2]) (by simp [results, Tryd.results21, go_sem, b1, b2]) rfl ?_
    exact HQ.out _ _ ⟨rfl, by_set_new (by_set_new HF.out (Nat.le_refl _)) (Nat.le_refl _)⟩
  · have ht2 : takeB last (y : Int) = true := by simpa using ht
    rw [ht2] at HT
    have HQ1' := Lib.hid (HQ1.out ht2)
    have HQE' := Lib.hid (HQE.out ht2)
    have HQK' := Lib.hid (HQK.out ht2)
    clear HQ2 HQE HQ1 HQK ht ht2
    go_enter Tryd.func21, Tryd.ntmps21
    go_wp2_with fail
    refine HT.out.mono ?_
    rintro e1 w2 ⟨rfl, ho2, hg2⟩
    have hbx : Box w2 w.heap.size := HBX.out.step hg2.size (hg2.block _ HBX.out.1 (by have := HRL.out.1; intro e; injection e with e; omega))
    have HG2 := Lib.hid (by_trans HG1.out hg2)
    have HB2 := Lib.hid (by_mem HG2.out HRL.out.2.1 HRL.out.2.2)
    have HO2 := Lib.hid ho2
    have HBX2 := Lib.hid hbx
    clear hg2 ho2 HT HBX HG1 hbx
    go_wp2_with fail
    refine (HU.out _ HB2.out).mono ?_
    rintro e1 w3 ⟨rfl, m, rfl⟩
    have hd := below_drewN (Below.refl w2.heap.size w2) m
    have HO3 := Lib.hid (HO2.out.keep hd)
    have HBX3 := HBX2.out.keep hd
    have HG3 := Lib.hid (by_trans HG2.out (by_below hd _))
    have HB3 := Lib.hid (HB2.out.trans (hd.mono (Nat.le_trans HRL.out.2.1 HG2.out.size)))
    obtain ⟨b0, b1, b2, b3, b4⟩ := HBX3
    clear hd HO2 HBX2 HG2 HB2 HU HSL
    generalize w2.drewN m = w4 at *
    by_cases he : e = 0
    · subst he
      have hi := uRes_in HUR.out
      rw [List.length_drop] at hi
      have hu32 := uRes_lt32 HUR.out
      obtain ⟨q, hq⟩ : ∃ q, 1 + s = q := ⟨_, rfl⟩
      obtain ⟨d, hd⟩ : ∃ d, l.length - q = d := ⟨_, rfl⟩
      obtain ⟨x, hx⟩ : ∃ x, q + u = x := ⟨_, rfl⟩
      have HSU := Lib.hid (first_sums l.length s u q d x HLI.out hi hu32 hq hd hx)
      have HD : Hid (q ≤ l.length ∧ l.length - q = d ∧ q + u = x) := Lib.hid ⟨by omega, hd, hx⟩
      have HQ1'' : Hid (d < u → ∀ e1 w', FirstBad w r 1 e1 w' → Q e1 w') := Lib.hid fun h => HQ1'.out rfl (by rw [hq, hd]; exact h)
      have HQK'' : Hid (¬ d < u → ∀ e1 w', FirstOk w r y x u (takeL last (y : Int)) ((l.drop q).take u) e1 w' → Q e1 w') := Lib.hid fun h e1 w' hf => HQK'.out rfl (by rw [hq, hd]; exact h) e1 w' (by rw [hq, hx]; exact hf)
      clear hi hu32 hq hd hx HQE' HQK' HQ1' HUR
      go_upto_if 41 with fail
      obtain ⟨e1, e2, e3, e4, e5⟩ := HSU.out
      simp only [e1, e2, e3]
      clear e1 e2 e3 HSU
      by_cases hlt : d < u
      · have hlti : (d : Int) < (u : Int) := by omega
        have HQ := Lib.hid (HQ1''.out hlt)
        clear HQ1'' HQK'' hlt e4 e5
        go_wp2
        refine bodyPost_ret (v := .tuple #[.agg #[.int .i64 0, .slice none 0 0], .int .i64 0, .int .i64 1]) (by simp [results, Tryd.results21, go_sem, b1, b2]) rfl ?_
        exact HQ.out _ _ ⟨rfl, by_set_new (by_set_new HG3.out (Nat.le_refl _)) (Nat.le_refl _)⟩
      · have hlti : ¬ (d : Int) < (u : Int) := by omega
        have HQ := Lib.hid (HQK''.out hlt)
        obtain ⟨h1, h2, h3⟩ := HD.out
        obtain ⟨A3, c3, HSL3, hB4⟩ := slice_to (some ⟨b, off, none⟩) l c q x B w HS.out (by omega) (by omega)
        have hs3 := hB4 w4 (HS.out.below HB3.out)
        rw [show x - q = u from by omega] at hs3 HSL3
        have hsl : ((l.drop q).take u).length = u := by simp; omega
        have hBle : B ≤ w4.heap.size := Nat.le_trans HRL.out.2.1 HG3.out.size
        have hC := gives_b (clone_any A3 ((l.drop q).take u) c3 w4 (hs3.bytes.more hBle) hs3.nil (by have := HLI.out; omega)) hs3.bytes.1 hsl
        generalize (l.drop q).take u = sg at *
        rw [hsl] at hC
        have HC := Lib.hid hC
        have HLT := Lib.hid hBle
        clear hC hsl hs3 hB4 h1 h2 h3 hlt HQ1'' HQK'' HD hBle
        go_wp2_with fail
        refine HC.out.mono ?_
        rintro en w5 ⟨A5, c5, rfl, hown5, hby5, hn5, hr5, hb5⟩
        have hbx5 : Box w5 w.heap.size := Box.keep ⟨b0, b1, b2, b3, b4⟩ hb5
        have HF := Lib.hid (And.intro hown5 (And.intro hby5 (And.intro hn5 (And.intro hr5 (And.intro (HO3.out.keep hb5) (by_trans HG3.out (by_below hb5 (some r))))))))
        have HW4 : Hid (w.heap.size < w4.heap.size) := Lib.hid b0
        clear b0 b1 b2 b3 b4 hown5 hby5 hn5 hr5 hb5 HC HSL3
        obtain ⟨b0, b1, b2, b3, b4⟩ := hbx5
        go_wp2
        refine bodyPost_ret (v := .tuple #[.agg #[.int .i64 (y : Int), .slice A5 u c5], .int .i64 (x : Int), .int .i64 0]) (by simp [results, Tryd.results21, go_sem, b1, b2]) rfl ?_
        obtain ⟨f1, f2, f3, f4, f5, f6⟩ := HF.out
        have hrr := HRL.out.1
        have hw := HW4.out
        have hown := own_set (i := 1) (u := .slice A5 u c5) (own_set (i := 0) (u := .int .i64 (y : Int)) f1 hw) hw
        obtain ⟨A6, c6, he6, hb6, _, _⟩ := hown.bytes f2.1
        injection he6 with e7 e8 e9
        subst e7
        refine HQ.out _ _ ⟨A5, c5, rfl, (f5.other (by omega)).other (by omega), by_set_new (by_set_new f6 (Nat.le_refl _)) (Nat.le_refl _), hb6, f4, f3, fun a ha => ?_⟩
        subst ha
        have := (World.ownsRow.lt f1 a.block rfl).1
        omega
    · have hne : ((e : Int) != 0) = true := by simp; omega
      have HQ := Lib.hid (HQE'.out he)
      clear HQE' HQK' HQ1' HUR
      go_wp2
      refine bodyPost_ret (v := .tuple #[.agg #[.int .i64 0, .slice none 0 0], .int .i64 0, .int .i64 (e : Int)]) (by simp [results, Tryd.results21, go_sem, b1, b2]) rfl ?_
      exact HQ.out _ _ ⟨rfl, by_set_new (by_set_new HG3.out (Nat.le_refl _)) (Nat.le_refl _)⟩
end Go.Proofs.YtelcoeeijkainaaDoor.Sec
