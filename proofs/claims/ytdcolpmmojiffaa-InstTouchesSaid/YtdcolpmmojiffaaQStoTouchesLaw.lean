/-
  StoTouchesLaw: trammellaw13.InstTouches: true. Conditions: inst's functions answer in the plain words (Does T), the law's fixed answers are right. (Written by wip/tools/genstotouches.py.)
-/
import Derived.Test.YtdcolpmmojiffaaQStoDoes
import Derived.Test.YtdcolpmmojiffaaQStoSmallA
namespace Go.Proofs.Ytdcolpmmojiffaa.Sto
open Go.RowKit Leb Typ Utf

def From (w : World) (n : Nat) : Prop := w.heap.size ≤ n
theorem Nums.more {w : World} {B B' : Nat} {A : Option Addr} {l : List Nat} (h : Nums w B A l) (hB : B ≤ B') : Nums w B' A l := fun hl => by
  obtain ⟨b, off, e, h1, h2⟩ := h hl
  exact ⟨b, off, e, by omega, h2⟩
theorem Bools.more {w : World} {B B' : Nat} {A : Option Addr} {l : List Bool} (h : Bools w B A l) (hB : B ≤ B') : Bools w B' A l := fun hl => by
  obtain ⟨b, off, e, h1, h2⟩ := h hl
  exact ⟨b, off, e, by omega, h2⟩
theorem StF.more {w : World} {B B' : Nat} {p : PSt} {g : GSt} (h : StF w B p g) (hB : B ≤ B') : StF w B' p g := ⟨⟨h.l.mem.more hB, h.l.tab.more hB, h.l.glo.more hB, h.l.els.more hB, h.l.dat.more hB⟩, h.r⟩
theorem StF.up {w w' : World} {p : PSt} {g : GSt} (h : StF w w.heap.size p g) (hb : Below w.heap.size w w') : StF w' w'.heap.size p g := (h.below hb).more hb.size

section
variable {T : World → Prop} (D : Does T)
include D
set_option maxRecDepth 100000 in
set_option maxHeartbeats 60000000 in
theorem touches_law (p : PSt) (g : GSt) (F : Option Addr) (f : List Int) (cf : Nat) (A : Option Addr) (b : List Nat) (cb a n : Nat) (w : World) (hT : T w) (haw : CT w 5 #[] (.bool true)) (hst : StF w w.heap.size p g) (hf : Ints w w.heap.size F f) (hfr : f.length ≤ cf) (hf0 : F = none → cf = 0) (hb : Slc w w.heap.size A cb b) (ha : a ≤ 18446744073709551615) (hn : n ≤ 18446744073709551615) : Calls Try.prog 4 #[.agg #[.slice p.A0 g.mem.length p.c0, .int .i64 g.cap, .slice p.A2 g.tab.length p.c2, .slice p.A3 g.glo.length p.c3, .slice p.A4 g.els.length p.c4, .slice p.A5 g.dat.length p.c5], .slice F f.length cf, .slice A b.length cb, .int .u64 (a : Int), .int .u64 (n : Int)] w (Ret w (.bool true)) := by
  have HAW := Lib.hid haw
  have HSM : Hid (∀ x, smallA g = x → CT w 6 #[.agg #[.slice p.A0 g.mem.length p.c0, .int .i64 g.cap, .slice p.A2 g.tab.length p.c2, .slice p.A3 g.glo.length p.c3, .slice p.A4 g.els.length p.c4, .slice p.A5 g.dat.length p.c5]] (.bool x)) := Lib.hid fun x hx V _ => by subst hx; exact smallA_any p g V
  have HST := Lib.hid hst
  have HFF := Lib.hid hf
  have HFR := Lib.hid (And.intro hfr hf0)
  have HB := Lib.hid hb
  have HAN := Lib.hid (And.intro ha hn)
  have HT := Lib.hid hT
  clear haw hst hf hfr hf0 hb ha hn hT
  have HD := Lib.hid (At.refl (Below.refl w.heap.size w))
  go_enter Try.func4, Try.ntmps4
  go_upto_region 1 with fail
  refine (show ∀ U, (At w U U ∧ BoxS U w.heap.size p g) → Code.wp _ _ _ _ U from fun W1 hF => ?_) _ ?_
  rotate_left
  · exact ⟨At.refl (below_one HD.out.1 _), boxs_new w p g⟩
  clear HD
  obtain ⟨hat, bx0⟩ := hF
  have HD := Lib.hid hat
  clear hat
  generalize w.heap.size = na at bx0 ⊢
  have HCELL : Hid (∀ V, At w W1 V → Fs [(⟨na, 0, none⟩, .slice p.A0 g.mem.length p.c0), (⟨na, 1, none⟩, .int .i64 g.cap), (⟨na, 2, none⟩, .slice p.A2 g.tab.length p.c2), (⟨na, 3, none⟩, .slice p.A3 g.glo.length p.c3), (⟨na, 4, none⟩, .slice p.A4 g.els.length p.c4), (⟨na, 5, none⟩, .slice p.A5 g.dat.length p.c5)] V) := Lib.hid fun V hV => by
    obtain ⟨k0, k1, k2, k3, k4, k5⟩ := (bx0.keep hV.2 bx0.lt).cells
    exact ⟨k0, k1, k2, k3, k4, k5, trivial⟩
  obtain ⟨s0, s1, s2, s3, s4, s5, -⟩ := HCELL.out _ HD.out
  go_wp2_with fail
  refine (HAW.out.go HD.out.1).mono ?_
  rintro en Vn ⟨rfl, hbel⟩
  replace HD := Lib.hid (HD.out.next hbel)
  clear hbel s0 s1 s2 s3 s4 s5
  obtain ⟨s0, s1, s2, s3, s4, s5, -⟩ := HCELL.out _ HD.out
  rename World => V
  clear HAW
  cases hsm : smallA g with
  | false =>
    have H1 := Lib.hid (HSM.out false hsm)
    go_wp2_with fail
    refine (H1.out.go HD.out.1).mono ?_
    rintro en Vn ⟨rfl, hbel⟩
    replace HD := Lib.hid (HD.out.next hbel)
    clear hbel s0 s1 s2 s3 s4 s5
    obtain ⟨s0, s1, s2, s3, s4, s5, -⟩ := HCELL.out _ HD.out
    rename World => V
    go_wp2
    go_ret
    exact ⟨rfl, HD.out.1⟩
  | true =>
  have H1 := Lib.hid (HSM.out true hsm)
  have hsz := (smallA_iff g).1 hsm
  clear HSM hsm
  by_cases hf1 : f.length ≤ 100
  case neg =>
    have hf1' : ¬ (f.length : Int) ≤ 100 := by omega
    go_wp2_with fail
    refine (H1.out.go HD.out.1).mono ?_
    rintro en Vn ⟨rfl, hbel⟩
    replace HD := Lib.hid (HD.out.next hbel)
    clear hbel s0 s1 s2 s3 s4 s5
    obtain ⟨s0, s1, s2, s3, s4, s5, -⟩ := HCELL.out _ HD.out
    rename World => V
    go_wp2
    go_ret
    exact ⟨rfl, HD.out.1⟩
  case pos =>
  have hf1' : (f.length : Int) ≤ 100 := by omega
  by_cases hb1 : b.length ≤ 1000
  case neg =>
    have hb1' : ¬ (b.length : Int) ≤ 1000 := by omega
    go_wp2_with fail
    refine (H1.out.go HD.out.1).mono ?_
    rintro en Vn ⟨rfl, hbel⟩
    replace HD := Lib.hid (HD.out.next hbel)
    clear hbel s0 s1 s2 s3 s4 s5
    obtain ⟨s0, s1, s2, s3, s4, s5, -⟩ := HCELL.out _ HD.out
    rename World => V
    go_wp2
    go_ret
    exact ⟨rfl, HD.out.1⟩
  case pos =>
  have hb1' : (b.length : Int) ≤ 1000 := by omega
  have HFI : Hid g.fits := Lib.hid (by unfold GSt.fits; omega)
  have HSZ := Lib.hid hsz
  clear hsz
  go_wp2_with fail
  refine (H1.out.go HD.out.1).mono ?_
  rintro en Vn ⟨rfl, hbel⟩
  replace HD := Lib.hid (HD.out.next hbel)
  clear hbel s0 s1 s2 s3 s4 s5
  obtain ⟨s0, s1, s2, s3, s4, s5, -⟩ := HCELL.out _ HD.out
  rename World => V
  clear H1
  obtain ⟨G1, o1, hG1⟩ : ∃ G o, putG g b a 0 n = (G, o) := ⟨_, _, rfl⟩
  have HPUT : Hid (∀ V, At w W1 V → Calls Try.prog 11 #[.agg #[.slice p.A0 g.mem.length p.c0, .int .i64 g.cap, .slice p.A2 g.tab.length p.c2, .slice p.A3 g.glo.length p.c3, .slice p.A4 g.els.length p.c4, .slice p.A5 g.dat.length p.c5], .slice A b.length cb, .int .u64 (a : Int), .int .u64 0, .int .u64 (n : Int)] V fun e V' => ∃ p', e = .returned (.tuple #[.agg #[.slice p'.A0 G1.mem.length p'.c0, .int .i64 G1.cap, .slice p'.A2 G1.tab.length p'.c2, .slice p'.A3 G1.glo.length p'.c3, .slice p'.A4 G1.els.length p'.c4, .slice p'.A5 G1.dat.length p'.c5], .bool o1]) ∧ StF V' V'.heap.size p' G1 ∧ Below V.heap.size V V') := Lib.hid fun V hV => by
    have h := D.put p g A b cb a 0 n V (HST.out.up hV.1) HFI.out ((HB.out.below hV.1).more hV.1.size) hb1 HSZ.out HAN.out.1 (by omega) HAN.out.2 (D.keep _ _ HT.out hV.1)
    rw [hG1] at h
    exact h
  go_wp2_with fail
  refine (HPUT.out _ HD.out).mono ?_
  rintro en Vn ⟨p1, rfl, hs1, hbel⟩
  replace HD := Lib.hid (HD.out.next hbel)
  clear hbel HPUT s0 s1 s2 s3 s4 s5
  rename World => V
  go_upto_region 6 with fail
  refine (show ∀ U, (At w U U ∧ BoxS U na p g ∧ BoxS U V.heap.size p1 G1 ∧ StF U V.heap.size p1 G1 ∧ At w W1 U ∧ na < V.heap.size ∧ From W1 V.heap.size ∧ From w V.heap.size ∧ V.heap.size < U.heap.size) → Code.wp _ _ _ _ U from fun W2 hF => ?_) _ ?_
  rotate_left
  · exact ⟨At.refl (below_one HD.out.1 _), boxs_past (bx0.keep HD.out.2 bx0.lt) _, boxs_new V p1 G1, hs1.below ((Below.refl V.heap.size V).alloc (Nat.le_refl _) _), HD.out.next ((Below.refl V.heap.size V).alloc (Nat.le_refl _) _), (bx0.keep HD.out.2 bx0.lt).lt, HD.out.2.size, HD.out.1.size, by simp⟩
  clear HD hs1
  obtain ⟨hat, bs, bx, hs, hat1, hne, hf1w, hfw, hlt⟩ := hF
  have HAT1 := Lib.hid hat1
  have HD2 := Lib.hid hat
  have HBS := Lib.hid bs
  have HBX := Lib.hid bx
  have HS1 := Lib.hid hs
  have HNE := Lib.hid hne
  have HFX := Lib.hid (And.intro hf1w (And.intro hfw hlt))
  clear hat bs bx hs hat1 hne hf1w hfw hlt
  generalize V.heap.size = nx at *
  go_upto_if 40 with fail
  go_cut [11] (fun s11 U => Hid (At w W1 U))
  case first =>
    cases o1 with
    | false =>
      have HE : Hid (At w W1 W2) := Lib.hid HAT1.out
      go_wp2
      go_meet
      exact HE
    | true =>
      have hok : 0 + n ≤ b.length ∧ a + n ≤ g.mem.length := by
        unfold putG at hG1
        split at hG1
        · assumption
        · cases hG1
      unfold putG at hG1
      rw [if_pos hok] at hG1
      injection hG1 with hG1 _
      subst hG1
      have hML := overL_length (t := g.mem) (f := b) hok.1 hok.2
      have hM1 := overL_mid (t := g.mem) (f := b) hok.1 hok.2
      have hM2 := overL_take (t := g.mem) (f := b) (fr := 0) hok.2
      have hM3 := overL_drop (t := g.mem) (f := b) hok.1 hok.2
      rw [List.drop_zero] at hM1
      generalize overL g.mem b a 0 n = M at *
      have hnb : n ≤ b.length := by omega
      have hae := hok.2
      clear hok
      obtain ⟨e, he⟩ : ∃ e, a + n = e := ⟨_, rfl⟩
      rw [he] at hae hM3
      have HX : Hid (Slc W2 W2.heap.size p1.A0 p1.c0 M) := Lib.hid ((show Slc W2 nx p1.A0 p1.c0 M from HS1.out.slc).more (Nat.le_of_lt HFX.out.2.2))
      have HSS : Hid (Slc W2 W2.heap.size p.A0 p.c0 g.mem) := Lib.hid (HST.out.up HAT1.out.1).slc
      have HBB : Hid (Slc W2 W2.heap.size A cb b) := Lib.hid ((HB.out.below HAT1.out.1).more HAT1.out.1.size)
      obtain ⟨A1, c1, h1, i1⟩ := slice_to p1.A0 M p1.c0 a e W2.heap.size W2 HX.out (by omega) (by omega)
      obtain ⟨h2, i2⟩ := slice_hi A b cb n W2.heap.size W2 HBB.out hnb
      obtain ⟨h3, i3⟩ := slice_hi p1.A0 M p1.c0 a W2.heap.size W2 HX.out (by omega)
      obtain ⟨h4, i4⟩ := slice_hi p.A0 g.mem p.c0 a W2.heap.size W2 HSS.out (by omega)
      obtain ⟨A5, c5, h5, i5⟩ := slice_at p1.A0 M p1.c0 e W2.heap.size W2 HX.out (by omega)
      obtain ⟨A6, c6, h6, i6⟩ := slice_at p.A0 g.mem p.c0 e W2.heap.size W2 HSS.out hae
      rw [show e - a = n by omega] at h1 i1
      have HC1 : Hid (∀ V, At w W2 V → (convert 22 9 (.slice A1 n c1)).run Try.prog V = .ok (.string (strOf ((M.drop a).take n))) V) := Lib.hid fun V hV => by
        have h := conv_any ((i1 W2 HX.out).bytes.below hV.2) c1
        rw [show ((M.drop a).take n).length = n by simp; omega] at h
        exact h
      have HC2 : Hid (∀ V, At w W2 V → (convert 22 9 (.slice A n cb)).run Try.prog V = .ok (.string (strOf (b.take n))) V) := Lib.hid fun V hV => by
        have h := conv_any ((i2 W2 HBB.out).bytes.below hV.2) cb
        rw [show (b.take n).length = n by simp; omega] at h
        exact h
      have HC3 : Hid (∀ V, At w W2 V → (convert 22 9 (.slice p1.A0 a p1.c0)).run Try.prog V = .ok (.string (strOf (M.take a))) V) := Lib.hid fun V hV => by
        have h := conv_any ((i3 W2 HX.out).bytes.below hV.2) p1.c0
        rw [show (M.take a).length = a by simp; omega] at h
        exact h
      have HC4 : Hid (∀ V, At w W2 V → (convert 22 9 (.slice p.A0 a p.c0)).run Try.prog V = .ok (.string (strOf (g.mem.take a))) V) := Lib.hid fun V hV => by
        have h := conv_any ((i4 W2 HSS.out).bytes.below hV.2) p.c0
        rw [show (g.mem.take a).length = a by simp; omega] at h
        exact h
      have HC5 : Hid (∀ V, At w W2 V → (convert 22 9 (.slice A5 (M.length - e) c5)).run Try.prog V = .ok (.string (strOf (M.drop e))) V) := Lib.hid fun V hV => by
        have h := conv_any ((i5 W2 HX.out).bytes.below hV.2) c5
        rw [List.length_drop] at h
        exact h
      have HC6 : Hid (∀ V, At w W2 V → (convert 22 9 (.slice A6 (g.mem.length - e) c6)).run Try.prog V = .ok (.string (strOf (g.mem.drop e))) V) := Lib.hid fun V hV => by
        have h := conv_any ((i6 W2 HSS.out).bytes.below hV.2) c6
        rw [List.length_drop] at h
        exact h
      rw [hM1] at HC1
      rw [hM2] at HC3
      rw [hM3] at HC5
      generalize strOf (b.take n) = t1 at *
      generalize strOf (g.mem.take a) = t2 at *
      generalize strOf (g.mem.drop e) = t3 at *
      have hlen : ((M.length : Int) != (g.mem.length : Int)) = false := by simp [hML]
      have hw : IntKind.u64.wrap ((a : Int) + (n : Int)) = (e : Int) := by rw [IntKind.wrap_u64]; have := HSZ.out.1; omega
      clear i1 i2 i3 i4 i5 i6 hM1 hM2 hM3 hML he hae hnb HX HSS HBB
      have HCL2 : Hid (∀ V, At w W2 V → Fs [(⟨na, 0, none⟩, .slice p.A0 g.mem.length p.c0), (⟨na, 1, none⟩, .int .i64 g.cap), (⟨na, 2, none⟩, .slice p.A2 g.tab.length p.c2), (⟨na, 3, none⟩, .slice p.A3 g.glo.length p.c3), (⟨na, 4, none⟩, .slice p.A4 g.els.length p.c4), (⟨na, 5, none⟩, .slice p.A5 g.dat.length p.c5), (⟨nx, 0, none⟩, .slice p1.A0 M.length p1.c0), (⟨nx, 1, none⟩, .int .i64 g.cap), (⟨nx, 2, none⟩, .slice p1.A2 g.tab.length p1.c2), (⟨nx, 3, none⟩, .slice p1.A3 g.glo.length p1.c3), (⟨nx, 4, none⟩, .slice p1.A4 g.els.length p1.c4), (⟨nx, 5, none⟩, .slice p1.A5 g.dat.length p1.c5)] V ∧ At w W2 V) := Lib.hid fun V hV => by
        obtain ⟨k0, k1, k2, k3, k4, k5⟩ := (HBS.out.keep hV.2 HBS.out.lt).cells
        obtain ⟨m0, m1, m2, m3, m4, m5⟩ := (HBX.out.keep hV.2 HBX.out.lt).cells
        exact ⟨⟨k0, k1, k2, k3, k4, k5, m0, m1, m2, m3, m4, m5, trivial⟩, hV⟩
      go_upto_region 7 with fail
      refine wp_region_held_drew (S := (fun V => Fs [(⟨na, 0, none⟩, .slice p.A0 g.mem.length p.c0), (⟨na, 1, none⟩, .int .i64 g.cap), (⟨na, 2, none⟩, .slice p.A2 g.tab.length p.c2), (⟨na, 3, none⟩, .slice p.A3 g.glo.length p.c3), (⟨na, 4, none⟩, .slice p.A4 g.els.length p.c4), (⟨na, 5, none⟩, .slice p.A5 g.dat.length p.c5), (⟨nx, 0, none⟩, .slice p1.A0 M.length p1.c0), (⟨nx, 1, none⟩, .int .i64 g.cap), (⟨nx, 2, none⟩, .slice p1.A2 g.tab.length p1.c2), (⟨nx, 3, none⟩, .slice p1.A3 g.glo.length p1.c3), (⟨nx, 4, none⟩, .slice p1.A4 g.els.length p1.c4), (⟨nx, 5, none⟩, .slice p1.A5 g.dat.length p1.c5)] V ∧ At w W2 V)) (by kernel_rfl) (HCL2.out _ HD2.out.drew) (fun hS => ?_)
      replace HD2 := Lib.hid HD2.out.drew
      generalize W2.drew = V at HD2 hS ⊢
      refine wpAnyH_take (i := 0) (oi := { dst := some 41, op := .fieldAddr 27 (.tmp 11) 0, type := 0, pos := "law.go:113", after := #[], guard := none }) (v := ?_) rfl (by kernel_rfl) (by kernel_rfl) (by kernel_rfl) (fun _ _ _ h => h) (Or.inl ⟨by rfl, ?_⟩) hS ?_
      rotate_left
      · (intro w' hS'; obtain ⟨⟨s0, s1, s2, s3, s4, s5, s6, s7, s8, s9, s10, s11, -⟩, hat⟩ := hS'; go_simp) <;> with_reducible rfl
      try simp only [Act.put, List.setIfInBounds_toArray, List.set_cons_zero, List.set_cons_succ]
      refine wpAnyH_take (i := 1) (oi := { dst := some 42, op := .load 22 (.tmp 41), type := 22, pos := "law.go:113", after := #[{ on := 0, ground := .data }], guard := none }) (v := ?_) rfl (by kernel_rfl) (by kernel_rfl) (by kernel_rfl) (fun _ _ _ h => h) (Or.inl ⟨by rfl, ?_⟩) hS ?_
      rotate_left
      · (intro w' hS'; obtain ⟨⟨s0, s1, s2, s3, s4, s5, s6, s7, s8, s9, s10, s11, -⟩, hat⟩ := hS'; go_simp) <;> with_reducible rfl
      try simp only [Act.put, List.setIfInBounds_toArray, List.set_cons_zero, List.set_cons_succ]
      refine wpAnyH_take (i := 2) (oi := { dst := some 43, op := .call { callee := .builtin .len, args := #[.tmp 42], argTypes := #[22] }, type := 3, pos := "law.go:113", after := #[{ on := 1, ground := .data }], guard := none }) (v := ?_) rfl (by kernel_rfl) (by kernel_rfl) (by kernel_rfl) (fun _ _ _ h => h) (Or.inl ⟨by rfl, ?_⟩) hS ?_
      rotate_left
      · (intro w' hS'; obtain ⟨⟨s0, s1, s2, s3, s4, s5, s6, s7, s8, s9, s10, s11, -⟩, hat⟩ := hS'; go_simp) <;> with_reducible rfl
      try simp only [Act.put, List.setIfInBounds_toArray, List.set_cons_zero, List.set_cons_succ]
      refine wpAnyH_take (i := 3) (oi := { dst := some 44, op := .fieldAddr 27 (.tmp 5) 0, type := 0, pos := "law.go:113", after := #[], guard := none }) (v := ?_) rfl (by kernel_rfl) (by kernel_rfl) (by kernel_rfl) (fun _ _ _ h => h) (Or.inl ⟨by rfl, ?_⟩) hS ?_
      rotate_left
      · (intro w' hS'; obtain ⟨⟨s0, s1, s2, s3, s4, s5, s6, s7, s8, s9, s10, s11, -⟩, hat⟩ := hS'; go_simp) <;> with_reducible rfl
      try simp only [Act.put, List.setIfInBounds_toArray, List.set_cons_zero, List.set_cons_succ]
      refine wpAnyH_take (i := 4) (oi := { dst := some 45, op := .load 22 (.tmp 44), type := 22, pos := "law.go:113", after := #[{ on := 3, ground := .data }], guard := none }) (v := ?_) rfl (by kernel_rfl) (by kernel_rfl) (by kernel_rfl) (fun _ _ _ h => h) (Or.inl ⟨by rfl, ?_⟩) hS ?_
      rotate_left
      · (intro w' hS'; obtain ⟨⟨s0, s1, s2, s3, s4, s5, s6, s7, s8, s9, s10, s11, -⟩, hat⟩ := hS'; go_simp) <;> with_reducible rfl
      try simp only [Act.put, List.setIfInBounds_toArray, List.set_cons_zero, List.set_cons_succ]
      refine wpAnyH_take (i := 5) (oi := { dst := some 46, op := .call { callee := .builtin .len, args := #[.tmp 45], argTypes := #[22] }, type := 3, pos := "law.go:113", after := #[{ on := 4, ground := .data }], guard := none }) (v := ?_) rfl (by kernel_rfl) (by kernel_rfl) (by kernel_rfl) (fun _ _ _ h => h) (Or.inl ⟨by rfl, ?_⟩) hS ?_
      rotate_left
      · (intro w' hS'; obtain ⟨⟨s0, s1, s2, s3, s4, s5, s6, s7, s8, s9, s10, s11, -⟩, hat⟩ := hS'; go_simp) <;> with_reducible rfl
      try simp only [Act.put, List.setIfInBounds_toArray, List.set_cons_zero, List.set_cons_succ]
      refine wpAnyH_take (i := 6) (oi := { dst := some 47, op := .binOp .neq 3 (.tmp 43) (.tmp 46) 3, type := 4, pos := "law.go:113", after := #[{ on := 2, ground := .data }, { on := 5, ground := .data }], guard := none }) (v := ?_) rfl (by kernel_rfl) (by kernel_rfl) (by kernel_rfl) (fun _ _ _ h => h) (Or.inl ⟨by rfl, ?_⟩) hS ?_
      rotate_left
      · (intro w' hS'; obtain ⟨⟨s0, s1, s2, s3, s4, s5, s6, s7, s8, s9, s10, s11, -⟩, hat⟩ := hS'; go_simp; try simp only [hlen]) <;> with_reducible rfl
      try simp only [Act.put, List.setIfInBounds_toArray, List.set_cons_zero, List.set_cons_succ]
      refine wpAnyH_take (i := 7) (oi := { dst := some 48, op := .move (.tmp 47), type := 4, pos := "law.go:113", after := #[{ on := 6, ground := .data }], guard := none }) (v := ?_) rfl (by kernel_rfl) (by kernel_rfl) (by kernel_rfl) (fun _ _ _ h => h) (Or.inl ⟨by rfl, ?_⟩) hS ?_
      rotate_left
      · (intro w' hS'; obtain ⟨⟨s0, s1, s2, s3, s4, s5, s6, s7, s8, s9, s10, s11, -⟩, hat⟩ := hS'; go_simp) <;> with_reducible rfl
      try simp only [Act.put, List.setIfInBounds_toArray, List.set_cons_zero, List.set_cons_succ]
      refine wpAnyH_take (i := 8) (oi := { dst := some 49, op := .fieldAddr 27 (.tmp 11) 0, type := 0, pos := "law.go:113", after := #[{ on := 7, ground := .guard }], guard := some (7, false) }) (v := ?_) rfl (by kernel_rfl) (by kernel_rfl) (by kernel_rfl) (fun _ _ _ h => h) (Or.inl ⟨by rfl, ?_⟩) hS ?_
      rotate_left
      · (intro w' hS'; obtain ⟨⟨s0, s1, s2, s3, s4, s5, s6, s7, s8, s9, s10, s11, -⟩, hat⟩ := hS'; go_simp) <;> with_reducible rfl
      try simp only [Act.put, List.setIfInBounds_toArray, List.set_cons_zero, List.set_cons_succ]
      refine wpAnyH_take (i := 9) (oi := { dst := some 50, op := .load 22 (.tmp 49), type := 22, pos := "law.go:113", after := #[{ on := 8, ground := .data }, { on := 7, ground := .guard }], guard := some (7, false) }) (v := ?_) rfl (by kernel_rfl) (by kernel_rfl) (by kernel_rfl) (fun _ _ _ h => h) (Or.inl ⟨by rfl, ?_⟩) hS ?_
      rotate_left
      · (intro w' hS'; obtain ⟨⟨s0, s1, s2, s3, s4, s5, s6, s7, s8, s9, s10, s11, -⟩, hat⟩ := hS'; go_simp) <;> with_reducible rfl
      try simp only [Act.put, List.setIfInBounds_toArray, List.set_cons_zero, List.set_cons_succ]
      refine wpAnyH_take (i := 10) (oi := { dst := some 51, op := .move (.tmp 3), type := 28, pos := "law.go:113", after := #[{ on := 7, ground := .guard }], guard := some (7, false) }) (v := ?_) rfl (by kernel_rfl) (by kernel_rfl) (by kernel_rfl) (fun _ _ _ h => h) (Or.inl ⟨by rfl, ?_⟩) hS ?_
      rotate_left
      · (intro w' hS'; obtain ⟨⟨s0, s1, s2, s3, s4, s5, s6, s7, s8, s9, s10, s11, -⟩, hat⟩ := hS'; go_simp) <;> with_reducible rfl
      try simp only [Act.put, List.setIfInBounds_toArray, List.set_cons_zero, List.set_cons_succ]
      refine wpAnyH_take (i := 11) (oi := { dst := some 52, op := .move (.tmp 3), type := 28, pos := "law.go:113", after := #[{ on := 7, ground := .guard }], guard := some (7, false) }) (v := ?_) rfl (by kernel_rfl) (by kernel_rfl) (by kernel_rfl) (fun _ _ _ h => h) (Or.inl ⟨by rfl, ?_⟩) hS ?_
      rotate_left
      · (intro w' hS'; obtain ⟨⟨s0, s1, s2, s3, s4, s5, s6, s7, s8, s9, s10, s11, -⟩, hat⟩ := hS'; go_simp) <;> with_reducible rfl
      try simp only [Act.put, List.setIfInBounds_toArray, List.set_cons_zero, List.set_cons_succ]
      refine wpAnyH_take (i := 12) (oi := { dst := some 53, op := .move (.tmp 4), type := 28, pos := "law.go:113", after := #[{ on := 7, ground := .guard }], guard := some (7, false) }) (v := ?_) rfl (by kernel_rfl) (by kernel_rfl) (by kernel_rfl) (fun _ _ _ h => h) (Or.inl ⟨by rfl, ?_⟩) hS ?_
      rotate_left
      · (intro w' hS'; obtain ⟨⟨s0, s1, s2, s3, s4, s5, s6, s7, s8, s9, s10, s11, -⟩, hat⟩ := hS'; go_simp) <;> with_reducible rfl
      try simp only [Act.put, List.setIfInBounds_toArray, List.set_cons_zero, List.set_cons_succ]
      refine wpAnyH_take (i := 13) (oi := { dst := some 54, op := .binOp .add 28 (.tmp 52) (.tmp 53) 28, type := 28, pos := "law.go:113", after := #[{ on := 11, ground := .data }, { on := 12, ground := .data }, { on := 7, ground := .guard }], guard := some (7, false) }) (v := ?_) rfl (by kernel_rfl) (by kernel_rfl) (by kernel_rfl) (fun _ _ _ h => h) (Or.inl ⟨by rfl, ?_⟩) hS ?_
      rotate_left
      · (intro w' hS'; obtain ⟨⟨s0, s1, s2, s3, s4, s5, s6, s7, s8, s9, s10, s11, -⟩, hat⟩ := hS'; go_simp; try simp only [hw]) <;> with_reducible rfl
      try simp only [Act.put, List.setIfInBounds_toArray, List.set_cons_zero, List.set_cons_succ]
      refine wpAnyH_take (i := 14) (oi := { dst := some 55, op := .slice 22 (.tmp 50) (some (.tmp 51)) (some (.tmp 54)) none, type := 22, pos := "law.go:113", after := #[{ on := 9, ground := .data }, { on := 10, ground := .data }, { on := 13, ground := .data }, { on := 7, ground := .guard }], guard := some (7, false) }) (v := ?_) rfl (by kernel_rfl) (by kernel_rfl) (by kernel_rfl) (fun _ _ _ h => h) (Or.inl ⟨by rfl, ?_⟩) hS ?_
      rotate_left
      · (intro w' hS'; obtain ⟨⟨s0, s1, s2, s3, s4, s5, s6, s7, s8, s9, s10, s11, -⟩, hat⟩ := hS'; go_simp; try simp only [h1, Result.andThen]) <;> with_reducible rfl
      try simp only [Act.put, List.setIfInBounds_toArray, List.set_cons_zero, List.set_cons_succ]
      refine wpAnyH_take (i := 15) (oi := { dst := some 56, op := .convert 22 9 (.tmp 55), type := 9, pos := "law.go:113", after := #[{ on := 14, ground := .data }, { on := 7, ground := .guard }], guard := some (7, false) }) (v := ?_) rfl (by kernel_rfl) (by kernel_rfl) (by kernel_rfl) (fun _ _ _ h => h) (Or.inl ⟨by rfl, ?_⟩) hS ?_
      rotate_left
      · (intro w' hS'; obtain ⟨⟨s0, s1, s2, s3, s4, s5, s6, s7, s8, s9, s10, s11, -⟩, hat⟩ := hS'; go_simp; try simp only [HC1.out w' hat, Result.andThen]) <;> with_reducible rfl
      try simp only [Act.put, List.setIfInBounds_toArray, List.set_cons_zero, List.set_cons_succ]
      refine wpAnyH_take (i := 16) (oi := { dst := some 57, op := .move (.tmp 2), type := 22, pos := "law.go:113", after := #[{ on := 7, ground := .guard }], guard := some (7, false) }) (v := ?_) rfl (by kernel_rfl) (by kernel_rfl) (by kernel_rfl) (fun _ _ _ h => h) (Or.inl ⟨by rfl, ?_⟩) hS ?_
      rotate_left
      · (intro w' hS'; obtain ⟨⟨s0, s1, s2, s3, s4, s5, s6, s7, s8, s9, s10, s11, -⟩, hat⟩ := hS'; go_simp) <;> with_reducible rfl
      try simp only [Act.put, List.setIfInBounds_toArray, List.set_cons_zero, List.set_cons_succ]
      refine wpAnyH_take (i := 17) (oi := { dst := some 58, op := .move (.tmp 4), type := 28, pos := "law.go:113", after := #[{ on := 7, ground := .guard }], guard := some (7, false) }) (v := ?_) rfl (by kernel_rfl) (by kernel_rfl) (by kernel_rfl) (fun _ _ _ h => h) (Or.inl ⟨by rfl, ?_⟩) hS ?_
      rotate_left
      · (intro w' hS'; obtain ⟨⟨s0, s1, s2, s3, s4, s5, s6, s7, s8, s9, s10, s11, -⟩, hat⟩ := hS'; go_simp) <;> with_reducible rfl
      try simp only [Act.put, List.setIfInBounds_toArray, List.set_cons_zero, List.set_cons_succ]
      refine wpAnyH_take (i := 18) (oi := { dst := some 59, op := .slice 22 (.tmp 57) none (some (.tmp 58)) none, type := 22, pos := "law.go:113", after := #[{ on := 16, ground := .data }, { on := 17, ground := .data }, { on := 7, ground := .guard }], guard := some (7, false) }) (v := ?_) rfl (by kernel_rfl) (by kernel_rfl) (by kernel_rfl) (fun _ _ _ h => h) (Or.inl ⟨by rfl, ?_⟩) hS ?_
      rotate_left
      · (intro w' hS'; obtain ⟨⟨s0, s1, s2, s3, s4, s5, s6, s7, s8, s9, s10, s11, -⟩, hat⟩ := hS'; go_simp; try simp only [h2, Result.andThen]) <;> with_reducible rfl
      try simp only [Act.put, List.setIfInBounds_toArray, List.set_cons_zero, List.set_cons_succ]
      refine wpAnyH_take (i := 19) (oi := { dst := some 60, op := .convert 22 9 (.tmp 59), type := 9, pos := "law.go:113", after := #[{ on := 18, ground := .data }, { on := 7, ground := .guard }], guard := some (7, false) }) (v := ?_) rfl (by kernel_rfl) (by kernel_rfl) (by kernel_rfl) (fun _ _ _ h => h) (Or.inl ⟨by rfl, ?_⟩) hS ?_
      rotate_left
      · (intro w' hS'; obtain ⟨⟨s0, s1, s2, s3, s4, s5, s6, s7, s8, s9, s10, s11, -⟩, hat⟩ := hS'; go_simp; try simp only [HC2.out w' hat, Result.andThen]) <;> with_reducible rfl
      try simp only [Act.put, List.setIfInBounds_toArray, List.set_cons_zero, List.set_cons_succ]
      refine wpAnyH_take (i := 20) (oi := { dst := some 61, op := .binOp .neq 9 (.tmp 56) (.tmp 60) 9, type := 4, pos := "law.go:113", after := #[{ on := 15, ground := .data }, { on := 19, ground := .data }, { on := 7, ground := .guard }], guard := some (7, false) }) (v := ?_) rfl (by kernel_rfl) (by kernel_rfl) (by kernel_rfl) (fun _ _ _ h => h) (Or.inl ⟨by rfl, ?_⟩) hS ?_
      rotate_left
      · (intro w' hS'; obtain ⟨⟨s0, s1, s2, s3, s4, s5, s6, s7, s8, s9, s10, s11, -⟩, hat⟩ := hS'; go_simp) <;> with_reducible rfl
      try simp only [Act.put, List.setIfInBounds_toArray, List.set_cons_zero, List.set_cons_succ]
      refine wpAnyH_take (i := 21) (oi := { dst := some 62, op := .pick (.tmp 48) (.const (.bool true)) (.tmp 61), type := 4, pos := "law.go:113", after := #[{ on := 7, ground := .data }, { on := 20, ground := .data }], guard := none }) (v := ?_) rfl (by kernel_rfl) (by kernel_rfl) (by kernel_rfl) (fun _ _ _ h => h) (Or.inl ⟨by rfl, ?_⟩) hS ?_
      rotate_left
      · (intro w' hS'; obtain ⟨⟨s0, s1, s2, s3, s4, s5, s6, s7, s8, s9, s10, s11, -⟩, hat⟩ := hS'; go_simp) <;> with_reducible rfl
      try simp only [Act.put, List.setIfInBounds_toArray, List.set_cons_zero, List.set_cons_succ]
      refine wpAnyH_take (i := 22) (oi := { dst := some 63, op := .move (.tmp 62), type := 4, pos := "law.go:113", after := #[{ on := 21, ground := .data }, { on := 7, ground := .chain }], guard := none }) (v := ?_) rfl (by kernel_rfl) (by kernel_rfl) (by kernel_rfl) (fun _ _ _ h => h) (Or.inl ⟨by rfl, ?_⟩) hS ?_
      rotate_left
      · (intro w' hS'; obtain ⟨⟨s0, s1, s2, s3, s4, s5, s6, s7, s8, s9, s10, s11, -⟩, hat⟩ := hS'; go_simp) <;> with_reducible rfl
      try simp only [Act.put, List.setIfInBounds_toArray, List.set_cons_zero, List.set_cons_succ]
      refine wpAnyH_take (i := 23) (oi := { dst := some 64, op := .fieldAddr 27 (.tmp 11) 0, type := 0, pos := "law.go:113", after := #[{ on := 22, ground := .guard }], guard := some (22, false) }) (v := ?_) rfl (by kernel_rfl) (by kernel_rfl) (by kernel_rfl) (fun _ _ _ h => h) (Or.inl ⟨by rfl, ?_⟩) hS ?_
      rotate_left
      · (intro w' hS'; obtain ⟨⟨s0, s1, s2, s3, s4, s5, s6, s7, s8, s9, s10, s11, -⟩, hat⟩ := hS'; go_simp) <;> with_reducible rfl
      try simp only [Act.put, List.setIfInBounds_toArray, List.set_cons_zero, List.set_cons_succ]
      refine wpAnyH_take (i := 24) (oi := { dst := some 65, op := .load 22 (.tmp 64), type := 22, pos := "law.go:113", after := #[{ on := 23, ground := .data }, { on := 22, ground := .guard }], guard := some (22, false) }) (v := ?_) rfl (by kernel_rfl) (by kernel_rfl) (by kernel_rfl) (fun _ _ _ h => h) (Or.inl ⟨by rfl, ?_⟩) hS ?_
      rotate_left
      · (intro w' hS'; obtain ⟨⟨s0, s1, s2, s3, s4, s5, s6, s7, s8, s9, s10, s11, -⟩, hat⟩ := hS'; go_simp) <;> with_reducible rfl
      try simp only [Act.put, List.setIfInBounds_toArray, List.set_cons_zero, List.set_cons_succ]
      refine wpAnyH_take (i := 25) (oi := { dst := some 66, op := .move (.tmp 3), type := 28, pos := "law.go:113", after := #[{ on := 22, ground := .guard }], guard := some (22, false) }) (v := ?_) rfl (by kernel_rfl) (by kernel_rfl) (by kernel_rfl) (fun _ _ _ h => h) (Or.inl ⟨by rfl, ?_⟩) hS ?_
      rotate_left
      · (intro w' hS'; obtain ⟨⟨s0, s1, s2, s3, s4, s5, s6, s7, s8, s9, s10, s11, -⟩, hat⟩ := hS'; go_simp) <;> with_reducible rfl
      try simp only [Act.put, List.setIfInBounds_toArray, List.set_cons_zero, List.set_cons_succ]
      refine wpAnyH_take (i := 26) (oi := { dst := some 67, op := .slice 22 (.tmp 65) none (some (.tmp 66)) none, type := 22, pos := "law.go:113", after := #[{ on := 24, ground := .data }, { on := 25, ground := .data }, { on := 22, ground := .guard }], guard := some (22, false) }) (v := ?_) rfl (by kernel_rfl) (by kernel_rfl) (by kernel_rfl) (fun _ _ _ h => h) (Or.inl ⟨by rfl, ?_⟩) hS ?_
      rotate_left
      · (intro w' hS'; obtain ⟨⟨s0, s1, s2, s3, s4, s5, s6, s7, s8, s9, s10, s11, -⟩, hat⟩ := hS'; go_simp; try simp only [h3, Result.andThen]) <;> with_reducible rfl
      try simp only [Act.put, List.setIfInBounds_toArray, List.set_cons_zero, List.set_cons_succ]
      refine wpAnyH_take (i := 27) (oi := { dst := some 68, op := .convert 22 9 (.tmp 67), type := 9, pos := "law.go:113", after := #[{ on := 26, ground := .data }, { on := 22, ground := .guard }], guard := some (22, false) }) (v := ?_) rfl (by kernel_rfl) (by kernel_rfl) (by kernel_rfl) (fun _ _ _ h => h) (Or.inl ⟨by rfl, ?_⟩) hS ?_
      rotate_left
      · (intro w' hS'; obtain ⟨⟨s0, s1, s2, s3, s4, s5, s6, s7, s8, s9, s10, s11, -⟩, hat⟩ := hS'; go_simp; try simp only [HC3.out w' hat, Result.andThen]) <;> with_reducible rfl
      try simp only [Act.put, List.setIfInBounds_toArray, List.set_cons_zero, List.set_cons_succ]
      refine wpAnyH_take (i := 28) (oi := { dst := some 69, op := .fieldAddr 27 (.tmp 5) 0, type := 0, pos := "law.go:113", after := #[{ on := 22, ground := .guard }], guard := some (22, false) }) (v := ?_) rfl (by kernel_rfl) (by kernel_rfl) (by kernel_rfl) (fun _ _ _ h => h) (Or.inl ⟨by rfl, ?_⟩) hS ?_
      rotate_left
      · (intro w' hS'; obtain ⟨⟨s0, s1, s2, s3, s4, s5, s6, s7, s8, s9, s10, s11, -⟩, hat⟩ := hS'; go_simp) <;> with_reducible rfl
      try simp only [Act.put, List.setIfInBounds_toArray, List.set_cons_zero, List.set_cons_succ]
      refine wpAnyH_take (i := 29) (oi := { dst := some 70, op := .load 22 (.tmp 69), type := 22, pos := "law.go:113", after := #[{ on := 28, ground := .data }, { on := 22, ground := .guard }], guard := some (22, false) }) (v := ?_) rfl (by kernel_rfl) (by kernel_rfl) (by kernel_rfl) (fun _ _ _ h => h) (Or.inl ⟨by rfl, ?_⟩) hS ?_
      rotate_left
      · (intro w' hS'; obtain ⟨⟨s0, s1, s2, s3, s4, s5, s6, s7, s8, s9, s10, s11, -⟩, hat⟩ := hS'; go_simp) <;> with_reducible rfl
      try simp only [Act.put, List.setIfInBounds_toArray, List.set_cons_zero, List.set_cons_succ]
      refine wpAnyH_take (i := 30) (oi := { dst := some 71, op := .move (.tmp 3), type := 28, pos := "law.go:113", after := #[{ on := 22, ground := .guard }], guard := some (22, false) }) (v := ?_) rfl (by kernel_rfl) (by kernel_rfl) (by kernel_rfl) (fun _ _ _ h => h) (Or.inl ⟨by rfl, ?_⟩) hS ?_
      rotate_left
      · (intro w' hS'; obtain ⟨⟨s0, s1, s2, s3, s4, s5, s6, s7, s8, s9, s10, s11, -⟩, hat⟩ := hS'; go_simp) <;> with_reducible rfl
      try simp only [Act.put, List.setIfInBounds_toArray, List.set_cons_zero, List.set_cons_succ]
      refine wpAnyH_take (i := 31) (oi := { dst := some 72, op := .slice 22 (.tmp 70) none (some (.tmp 71)) none, type := 22, pos := "law.go:113", after := #[{ on := 29, ground := .data }, { on := 30, ground := .data }, { on := 22, ground := .guard }], guard := some (22, false) }) (v := ?_) rfl (by kernel_rfl) (by kernel_rfl) (by kernel_rfl) (fun _ _ _ h => h) (Or.inl ⟨by rfl, ?_⟩) hS ?_
      rotate_left
      · (intro w' hS'; obtain ⟨⟨s0, s1, s2, s3, s4, s5, s6, s7, s8, s9, s10, s11, -⟩, hat⟩ := hS'; go_simp; try simp only [h4, Result.andThen]) <;> with_reducible rfl
      try simp only [Act.put, List.setIfInBounds_toArray, List.set_cons_zero, List.set_cons_succ]
      refine wpAnyH_take (i := 32) (oi := { dst := some 73, op := .convert 22 9 (.tmp 72), type := 9, pos := "law.go:113", after := #[{ on := 31, ground := .data }, { on := 22, ground := .guard }], guard := some (22, false) }) (v := ?_) rfl (by kernel_rfl) (by kernel_rfl) (by kernel_rfl) (fun _ _ _ h => h) (Or.inl ⟨by rfl, ?_⟩) hS ?_
      rotate_left
      · (intro w' hS'; obtain ⟨⟨s0, s1, s2, s3, s4, s5, s6, s7, s8, s9, s10, s11, -⟩, hat⟩ := hS'; go_simp; try simp only [HC4.out w' hat, Result.andThen]) <;> with_reducible rfl
      try simp only [Act.put, List.setIfInBounds_toArray, List.set_cons_zero, List.set_cons_succ]
      refine wpAnyH_take (i := 33) (oi := { dst := some 74, op := .binOp .neq 9 (.tmp 68) (.tmp 73) 9, type := 4, pos := "law.go:113", after := #[{ on := 27, ground := .data }, { on := 32, ground := .data }, { on := 22, ground := .guard }], guard := some (22, false) }) (v := ?_) rfl (by kernel_rfl) (by kernel_rfl) (by kernel_rfl) (fun _ _ _ h => h) (Or.inl ⟨by rfl, ?_⟩) hS ?_
      rotate_left
      · (intro w' hS'; obtain ⟨⟨s0, s1, s2, s3, s4, s5, s6, s7, s8, s9, s10, s11, -⟩, hat⟩ := hS'; go_simp) <;> with_reducible rfl
      try simp only [Act.put, List.setIfInBounds_toArray, List.set_cons_zero, List.set_cons_succ]
      refine wpAnyH_take (i := 34) (oi := { dst := some 75, op := .pick (.tmp 63) (.const (.bool true)) (.tmp 74), type := 4, pos := "law.go:113", after := #[{ on := 22, ground := .data }, { on := 33, ground := .data }], guard := none }) (v := ?_) rfl (by kernel_rfl) (by kernel_rfl) (by kernel_rfl) (fun _ _ _ h => h) (Or.inl ⟨by rfl, ?_⟩) hS ?_
      rotate_left
      · (intro w' hS'; obtain ⟨⟨s0, s1, s2, s3, s4, s5, s6, s7, s8, s9, s10, s11, -⟩, hat⟩ := hS'; go_simp) <;> with_reducible rfl
      try simp only [Act.put, List.setIfInBounds_toArray, List.set_cons_zero, List.set_cons_succ]
      refine wpAnyH_take (i := 35) (oi := { dst := some 76, op := .move (.tmp 75), type := 4, pos := "law.go:113", after := #[{ on := 34, ground := .data }, { on := 22, ground := .chain }], guard := none }) (v := ?_) rfl (by kernel_rfl) (by kernel_rfl) (by kernel_rfl) (fun _ _ _ h => h) (Or.inl ⟨by rfl, ?_⟩) hS ?_
      rotate_left
      · (intro w' hS'; obtain ⟨⟨s0, s1, s2, s3, s4, s5, s6, s7, s8, s9, s10, s11, -⟩, hat⟩ := hS'; go_simp) <;> with_reducible rfl
      try simp only [Act.put, List.setIfInBounds_toArray, List.set_cons_zero, List.set_cons_succ]
      refine wpAnyH_take (i := 36) (oi := { dst := some 77, op := .fieldAddr 27 (.tmp 11) 0, type := 0, pos := "law.go:113", after := #[{ on := 35, ground := .guard }], guard := some (35, false) }) (v := ?_) rfl (by kernel_rfl) (by kernel_rfl) (by kernel_rfl) (fun _ _ _ h => h) (Or.inl ⟨by rfl, ?_⟩) hS ?_
      rotate_left
      · (intro w' hS'; obtain ⟨⟨s0, s1, s2, s3, s4, s5, s6, s7, s8, s9, s10, s11, -⟩, hat⟩ := hS'; go_simp) <;> with_reducible rfl
      try simp only [Act.put, List.setIfInBounds_toArray, List.set_cons_zero, List.set_cons_succ]
      refine wpAnyH_take (i := 37) (oi := { dst := some 78, op := .load 22 (.tmp 77), type := 22, pos := "law.go:113", after := #[{ on := 36, ground := .data }, { on := 35, ground := .guard }], guard := some (35, false) }) (v := ?_) rfl (by kernel_rfl) (by kernel_rfl) (by kernel_rfl) (fun _ _ _ h => h) (Or.inl ⟨by rfl, ?_⟩) hS ?_
      rotate_left
      · (intro w' hS'; obtain ⟨⟨s0, s1, s2, s3, s4, s5, s6, s7, s8, s9, s10, s11, -⟩, hat⟩ := hS'; go_simp) <;> with_reducible rfl
      try simp only [Act.put, List.setIfInBounds_toArray, List.set_cons_zero, List.set_cons_succ]
      refine wpAnyH_take (i := 38) (oi := { dst := some 79, op := .move (.tmp 3), type := 28, pos := "law.go:113", after := #[{ on := 35, ground := .guard }], guard := some (35, false) }) (v := ?_) rfl (by kernel_rfl) (by kernel_rfl) (by kernel_rfl) (fun _ _ _ h => h) (Or.inl ⟨by rfl, ?_⟩) hS ?_
      rotate_left
      · (intro w' hS'; obtain ⟨⟨s0, s1, s2, s3, s4, s5, s6, s7, s8, s9, s10, s11, -⟩, hat⟩ := hS'; go_simp) <;> with_reducible rfl
      try simp only [Act.put, List.setIfInBounds_toArray, List.set_cons_zero, List.set_cons_succ]
      refine wpAnyH_take (i := 39) (oi := { dst := some 80, op := .move (.tmp 4), type := 28, pos := "law.go:113", after := #[{ on := 35, ground := .guard }], guard := some (35, false) }) (v := ?_) rfl (by kernel_rfl) (by kernel_rfl) (by kernel_rfl) (fun _ _ _ h => h) (Or.inl ⟨by rfl, ?_⟩) hS ?_
      rotate_left
      · (intro w' hS'; obtain ⟨⟨s0, s1, s2, s3, s4, s5, s6, s7, s8, s9, s10, s11, -⟩, hat⟩ := hS'; go_simp) <;> with_reducible rfl
      try simp only [Act.put, List.setIfInBounds_toArray, List.set_cons_zero, List.set_cons_succ]
      refine wpAnyH_take (i := 40) (oi := { dst := some 81, op := .binOp .add 28 (.tmp 79) (.tmp 80) 28, type := 28, pos := "law.go:113", after := #[{ on := 38, ground := .data }, { on := 39, ground := .data }, { on := 35, ground := .guard }], guard := some (35, false) }) (v := ?_) rfl (by kernel_rfl) (by kernel_rfl) (by kernel_rfl) (fun _ _ _ h => h) (Or.inl ⟨by rfl, ?_⟩) hS ?_
      rotate_left
      · (intro w' hS'; obtain ⟨⟨s0, s1, s2, s3, s4, s5, s6, s7, s8, s9, s10, s11, -⟩, hat⟩ := hS'; go_simp; try simp only [hw]) <;> with_reducible rfl
      try simp only [Act.put, List.setIfInBounds_toArray, List.set_cons_zero, List.set_cons_succ]
      refine wpAnyH_take (i := 41) (oi := { dst := some 82, op := .slice 22 (.tmp 78) (some (.tmp 81)) none none, type := 22, pos := "law.go:113", after := #[{ on := 37, ground := .data }, { on := 40, ground := .data }, { on := 35, ground := .guard }], guard := some (35, false) }) (v := ?_) rfl (by kernel_rfl) (by kernel_rfl) (by kernel_rfl) (fun _ _ _ h => h) (Or.inl ⟨by rfl, ?_⟩) hS ?_
      rotate_left
      · (intro w' hS'; obtain ⟨⟨s0, s1, s2, s3, s4, s5, s6, s7, s8, s9, s10, s11, -⟩, hat⟩ := hS'; go_simp; try simp only [h5, Result.andThen]) <;> with_reducible rfl
      try simp only [Act.put, List.setIfInBounds_toArray, List.set_cons_zero, List.set_cons_succ]
      refine wpAnyH_take (i := 42) (oi := { dst := some 83, op := .convert 22 9 (.tmp 82), type := 9, pos := "law.go:113", after := #[{ on := 41, ground := .data }, { on := 35, ground := .guard }], guard := some (35, false) }) (v := ?_) rfl (by kernel_rfl) (by kernel_rfl) (by kernel_rfl) (fun _ _ _ h => h) (Or.inl ⟨by rfl, ?_⟩) hS ?_
      rotate_left
      · (intro w' hS'; obtain ⟨⟨s0, s1, s2, s3, s4, s5, s6, s7, s8, s9, s10, s11, -⟩, hat⟩ := hS'; go_simp; try simp only [HC5.out w' hat, Result.andThen]) <;> with_reducible rfl
      try simp only [Act.put, List.setIfInBounds_toArray, List.set_cons_zero, List.set_cons_succ]
      refine wpAnyH_take (i := 43) (oi := { dst := some 84, op := .fieldAddr 27 (.tmp 5) 0, type := 0, pos := "law.go:113", after := #[{ on := 35, ground := .guard }], guard := some (35, false) }) (v := ?_) rfl (by kernel_rfl) (by kernel_rfl) (by kernel_rfl) (fun _ _ _ h => h) (Or.inl ⟨by rfl, ?_⟩) hS ?_
      rotate_left
      · (intro w' hS'; obtain ⟨⟨s0, s1, s2, s3, s4, s5, s6, s7, s8, s9, s10, s11, -⟩, hat⟩ := hS'; go_simp) <;> with_reducible rfl
      try simp only [Act.put, List.setIfInBounds_toArray, List.set_cons_zero, List.set_cons_succ]
      refine wpAnyH_take (i := 44) (oi := { dst := some 85, op := .load 22 (.tmp 84), type := 22, pos := "law.go:113", after := #[{ on := 43, ground := .data }, { on := 35, ground := .guard }], guard := some (35, false) }) (v := ?_) rfl (by kernel_rfl) (by kernel_rfl) (by kernel_rfl) (fun _ _ _ h => h) (Or.inl ⟨by rfl, ?_⟩) hS ?_
      rotate_left
      · (intro w' hS'; obtain ⟨⟨s0, s1, s2, s3, s4, s5, s6, s7, s8, s9, s10, s11, -⟩, hat⟩ := hS'; go_simp) <;> with_reducible rfl
      try simp only [Act.put, List.setIfInBounds_toArray, List.set_cons_zero, List.set_cons_succ]
      refine wpAnyH_take (i := 45) (oi := { dst := some 86, op := .move (.tmp 3), type := 28, pos := "law.go:113", after := #[{ on := 35, ground := .guard }], guard := some (35, false) }) (v := ?_) rfl (by kernel_rfl) (by kernel_rfl) (by kernel_rfl) (fun _ _ _ h => h) (Or.inl ⟨by rfl, ?_⟩) hS ?_
      rotate_left
      · (intro w' hS'; obtain ⟨⟨s0, s1, s2, s3, s4, s5, s6, s7, s8, s9, s10, s11, -⟩, hat⟩ := hS'; go_simp) <;> with_reducible rfl
      try simp only [Act.put, List.setIfInBounds_toArray, List.set_cons_zero, List.set_cons_succ]
      refine wpAnyH_take (i := 46) (oi := { dst := some 87, op := .move (.tmp 4), type := 28, pos := "law.go:113", after := #[{ on := 35, ground := .guard }], guard := some (35, false) }) (v := ?_) rfl (by kernel_rfl) (by kernel_rfl) (by kernel_rfl) (fun _ _ _ h => h) (Or.inl ⟨by rfl, ?_⟩) hS ?_
      rotate_left
      · (intro w' hS'; obtain ⟨⟨s0, s1, s2, s3, s4, s5, s6, s7, s8, s9, s10, s11, -⟩, hat⟩ := hS'; go_simp) <;> with_reducible rfl
      try simp only [Act.put, List.setIfInBounds_toArray, List.set_cons_zero, List.set_cons_succ]
      refine wpAnyH_take (i := 47) (oi := { dst := some 88, op := .binOp .add 28 (.tmp 86) (.tmp 87) 28, type := 28, pos := "law.go:113", after := #[{ on := 45, ground := .data }, { on := 46, ground := .data }, { on := 35, ground := .guard }], guard := some (35, false) }) (v := ?_) rfl (by kernel_rfl) (by kernel_rfl) (by kernel_rfl) (fun _ _ _ h => h) (Or.inl ⟨by rfl, ?_⟩) hS ?_
      rotate_left
      · (intro w' hS'; obtain ⟨⟨s0, s1, s2, s3, s4, s5, s6, s7, s8, s9, s10, s11, -⟩, hat⟩ := hS'; go_simp; try simp only [hw]) <;> with_reducible rfl
      try simp only [Act.put, List.setIfInBounds_toArray, List.set_cons_zero, List.set_cons_succ]
      refine wpAnyH_take (i := 48) (oi := { dst := some 89, op := .slice 22 (.tmp 85) (some (.tmp 88)) none none, type := 22, pos := "law.go:113", after := #[{ on := 44, ground := .data }, { on := 47, ground := .data }, { on := 35, ground := .guard }], guard := some (35, false) }) (v := ?_) rfl (by kernel_rfl) (by kernel_rfl) (by kernel_rfl) (fun _ _ _ h => h) (Or.inl ⟨by rfl, ?_⟩) hS ?_
      rotate_left
      · (intro w' hS'; obtain ⟨⟨s0, s1, s2, s3, s4, s5, s6, s7, s8, s9, s10, s11, -⟩, hat⟩ := hS'; go_simp; try simp only [h6, Result.andThen]) <;> with_reducible rfl
      try simp only [Act.put, List.setIfInBounds_toArray, List.set_cons_zero, List.set_cons_succ]
      refine wpAnyH_take (i := 49) (oi := { dst := some 90, op := .convert 22 9 (.tmp 89), type := 9, pos := "law.go:113", after := #[{ on := 48, ground := .data }, { on := 35, ground := .guard }], guard := some (35, false) }) (v := ?_) rfl (by kernel_rfl) (by kernel_rfl) (by kernel_rfl) (fun _ _ _ h => h) (Or.inl ⟨by rfl, ?_⟩) hS ?_
      rotate_left
      · (intro w' hS'; obtain ⟨⟨s0, s1, s2, s3, s4, s5, s6, s7, s8, s9, s10, s11, -⟩, hat⟩ := hS'; go_simp; try simp only [HC6.out w' hat, Result.andThen]) <;> with_reducible rfl
      try simp only [Act.put, List.setIfInBounds_toArray, List.set_cons_zero, List.set_cons_succ]
      refine wpAnyH_take (i := 50) (oi := { dst := some 91, op := .binOp .neq 9 (.tmp 83) (.tmp 90) 9, type := 4, pos := "law.go:113", after := #[{ on := 42, ground := .data }, { on := 49, ground := .data }, { on := 35, ground := .guard }], guard := some (35, false) }) (v := ?_) rfl (by kernel_rfl) (by kernel_rfl) (by kernel_rfl) (fun _ _ _ h => h) (Or.inl ⟨by rfl, ?_⟩) hS ?_
      rotate_left
      · (intro w' hS'; obtain ⟨⟨s0, s1, s2, s3, s4, s5, s6, s7, s8, s9, s10, s11, -⟩, hat⟩ := hS'; go_simp) <;> with_reducible rfl
      try simp only [Act.put, List.setIfInBounds_toArray, List.set_cons_zero, List.set_cons_succ]
      refine wpAnyH_take (i := 51) (oi := { dst := some 92, op := .pick (.tmp 76) (.const (.bool true)) (.tmp 91), type := 4, pos := "law.go:113", after := #[{ on := 35, ground := .data }, { on := 50, ground := .data }], guard := none }) (v := ?_) rfl (by kernel_rfl) (by kernel_rfl) (by kernel_rfl) (fun _ _ _ h => h) (Or.inl ⟨by rfl, ?_⟩) hS ?_
      rotate_left
      · (intro w' hS'; obtain ⟨⟨s0, s1, s2, s3, s4, s5, s6, s7, s8, s9, s10, s11, -⟩, hat⟩ := hS'; go_simp) <;> with_reducible rfl
      try simp only [Act.put, List.setIfInBounds_toArray, List.set_cons_zero, List.set_cons_succ]
      refine wpAnyH_done (by kernel_rfl) ?_ _
      clear hS h1 h2 h3 h4 h5 h6 HC1 HC2 HC3 HC4 HC5 HC6 hlen hw HCL2
      have hbx := HBX.out.keep HD2.out.2 HBX.out.lt
      have hbs := HBS.out.keep HD2.out.2 HBS.out.lt
      have HA2 : Hid (At w W1 (V.setCell ⟨nx, 0, none⟩ (.slice p.A0 g.mem.length p.c0))) := Lib.hid ⟨((HAT1.out.next HD2.out.2).1).setCell (p := ⟨nx, 0, none⟩) HFX.out.2.1 _, ((HAT1.out.next HD2.out.2).2).setCell (p := ⟨nx, 0, none⟩) HFX.out.1 _⟩
      have HN2 : Hid (Below nx W2 (V.setCell ⟨nx, 0, none⟩ (.slice p.A0 g.mem.length p.c0))) := Lib.hid ((HD2.out.2.mono (Nat.le_of_lt HFX.out.2.2)).setCell (p := ⟨nx, 0, none⟩) (Nat.le_refl _) _)
      have HS2 : Hid (BoxS (V.setCell ⟨nx, 0, none⟩ (.slice p.A0 g.mem.length p.c0)) na p g) := Lib.hid ((Below.heap_setCell _ _ _ _ (Nat.ne_of_lt HNE.out)).trans hbs)
      have HSZ2 : Hid (nx ≤ (V.setCell ⟨nx, 0, none⟩ (.slice p.A0 g.mem.length p.c0)).heap.size) := Lib.hid (Nat.le_trans (Nat.le_of_lt HFX.out.2.2) (by have := HD2.out.2.size; simpa using this))
      obtain ⟨p2, HX2, HL2⟩ : ∃ p2, Hid (BoxS (V.setCell ⟨nx, 0, none⟩ (.slice p.A0 g.mem.length p.c0)) nx p2 g) ∧ Hid (StL (V.setCell ⟨nx, 0, none⟩ (.slice p.A0 g.mem.length p.c0)) (V.setCell ⟨nx, 0, none⟩ (.slice p.A0 g.mem.length p.c0)).heap.size p2 g) := ⟨{ p1 with A0 := p.A0, c0 := p.c0 }, Lib.hid (hbx.set0 g.mem p.A0 p.c0), Lib.hid ⟨(HST.out.up HA2.out.1).l.mem, (HS1.out.l.tab.below HN2.out).more HSZ2.out, (HS1.out.l.glo.below HN2.out).more HSZ2.out, (HS1.out.l.els.below HN2.out).more HSZ2.out, (HS1.out.l.dat.below HN2.out).more HSZ2.out⟩⟩
      have f0 := hbx.free 0
      obtain ⟨k0, k1, k2, k3, k4, k5⟩ := hbs.cells
      obtain ⟨m0, m1, m2, m3, m4, m5⟩ := hbx.cells
      clear hbx hbs
      go_upto_region 10 with fail
      clear k0 k1 k2 k3 k4 k5 m0 m1 m2 m3 m4 m5 f0 HN2 HSZ2 HD2
      generalize (V.setCell ⟨nx, 0, none⟩ (.slice p.A0 g.mem.length p.c0)) = V2 at *
      obtain ⟨k0, k1, k2, k3, k4, k5⟩ := HS2.out.cells
      obtain ⟨m0, m1, m2, m3, m4, m5⟩ := HX2.out.cells
      have hsg : sameB g g = true := (sameB_iff g g).2 rfl
      go_wp2_with fail
      refine (rsame_any p2 p g g V2 HL2.out (HST.out.up HA2.out.1).l HFI.out HFI.out).mono ?_
      rintro en V3 ⟨rfl, hbel⟩
      rw [hsg]
      have HA3 := Lib.hid (HA2.out.next hbel)
      clear hbel
      go_wp2
      go_meet
      exact HA3
  case rest =>
    clear HBS HBX HS1 HD2 HAT1 HNE HFX hG1
    rename World => V
    have HD := hcut
    clear hcut
    obtain ⟨s0, s1, s2, s3, s4, s5, -⟩ := HCELL.out _ HD.out
    obtain ⟨G3, o3, hG3⟩ : ∃ G o, layG g f a 0 n = (G, o) := ⟨_, _, rfl⟩
    have HLAY : Hid (∀ V, At w W1 V → Calls Try.prog 8 #[.agg #[.slice p.A0 g.mem.length p.c0, .int .i64 g.cap, .slice p.A2 g.tab.length p.c2, .slice p.A3 g.glo.length p.c3, .slice p.A4 g.els.length p.c4, .slice p.A5 g.dat.length p.c5], .slice F f.length cf, .int .u64 (a : Int), .int .u64 0, .int .u64 (n : Int)] V fun e V' => ∃ p', e = .returned (.tuple #[.agg #[.slice p'.A0 G3.mem.length p'.c0, .int .i64 G3.cap, .slice p'.A2 G3.tab.length p'.c2, .slice p'.A3 G3.glo.length p'.c3, .slice p'.A4 G3.els.length p'.c4, .slice p'.A5 G3.dat.length p'.c5], .bool o3]) ∧ StF V' V'.heap.size p' G3 ∧ Below V.heap.size V V') := Lib.hid fun V hV => by
      have h := D.lay p g F f cf a 0 n V (HST.out.up hV.1) HFI.out ((HFF.out.below hV.1).more hV.1.size) HFR.out.1 HFR.out.2 hf1 HSZ.out HAN.out.1 (by omega) HAN.out.2 (D.keep _ _ HT.out hV.1)
      rw [hG3] at h
      exact h
    go_wp2_with fail
    refine (HLAY.out _ HD.out).mono ?_
    rintro en Vn ⟨p3, rfl, hs3, hbel⟩
    replace HD := Lib.hid (HD.out.next hbel)
    clear hbel HLAY s0 s1 s2 s3 s4 s5
    rename World => V
    go_upto_region 13 with fail
    refine (show ∀ U, (At w U U ∧ BoxS U na p g ∧ BoxS U V.heap.size p3 G3 ∧ StF U V.heap.size p3 G3 ∧ V.heap.size < U.heap.size) → Code.wp _ _ _ _ U from fun W3 hF => ?_) _ ?_
    rotate_left
    · exact ⟨At.refl (below_one HD.out.1 _), boxs_past (bx0.keep HD.out.2 bx0.lt) _, boxs_new V p3 G3, hs3.below ((Below.refl V.heap.size V).alloc (Nat.le_refl _) _), by simp⟩
    clear HD hs3
    obtain ⟨hat, bs, bx, hs, hlt⟩ := hF
    have HD := Lib.hid hat
    have HBS := Lib.hid bs
    have HBX := Lib.hid bx
    have HS3 := Lib.hid (hs.more (Nat.le_of_lt hlt))
    clear hat bs bx hs hlt
    generalize V.heap.size = ny at *
    cases o3 with
    | false =>
      go_wp2
      go_ret
      exact ⟨rfl, HD.out.1⟩
    | true =>
      have hok : 0 + n ≤ f.length ∧ a + n ≤ g.tab.length := by
        unfold layG at hG3
        split at hG3
        · assumption
        · cases hG3
      unfold layG at hG3
      rw [if_pos hok] at hG3
      injection hG3 with hG3 _
      subst hG3
      have hLL := overL_length (t := g.tab) (f := f) hok.1 hok.2
      have HGET : Hid (∀ i (hi : i < g.tab.length) (hi' : i < (overL g.tab f a 0 n).length), (a ≤ i ∧ i < a + n → ∃ h' : i - a < f.length, (overL g.tab f a 0 n)[i] = f[i - a]) ∧ (¬ (a ≤ i ∧ i < a + n) → (overL g.tab f a 0 n)[i] = g.tab[i])) := Lib.hid fun i hi hi' => by
        have h := overL_get hok.1 hok.2 hi hi'
        exact ⟨fun hin => ⟨by omega, by simpa using h.1 hin⟩, h.2⟩
      generalize overL g.tab f a 0 n = L at *
      have HLL := Lib.hid hLL
      have HOK := Lib.hid hok
      have ht := HSZ.out.2.1
      clear hLL hok
      obtain ⟨e, he⟩ : ∃ e, a + n = e := ⟨_, rfl⟩
      have HE := Lib.hid he
      have hwe : IntKind.u64.wrap ((a : Int) + (n : Int)) = (e : Int) := by rw [IntKind.wrap_u64]; have := HOK.out.2; omega
      clear he
      go_wp2
      go_loopw [15] (fun i wr => ∃ j : Nat, i = .int .i64 (j : Int) ∧ j ≤ g.tab.length ∧ Hid (At w W3 wr)) (fun i _ => g.tab.length - (intOf i).toNat)
      case atStart => exact ⟨0, rfl, Nat.zero_le _, HD⟩
      case round =>
        clear HD
        obtain ⟨j, rfl, hj, HD⟩ := hrel
        rename World => V
        obtain ⟨k0, k1, k2, k3, k4, k5⟩ := (HBS.out.keep HD.out.2 HBS.out.lt).cells
        obtain ⟨m0, m1, m2, m3, m4, m5⟩ := (HBX.out.keep HD.out.2 HBX.out.lt).cells
        by_cases hlt : j < g.tab.length
        case neg =>
          have hlt' : ¬ (j : Int) < (g.tab.length : Int) := by omega
          have hll : ((L.length : Int) == (g.tab.length : Int)) = true := by simp [HLL.out]
          go_wp2
          go_ret
          exact ⟨rfl, HD.out.1⟩
        case pos =>
          have hlt' : (j : Int) < (g.tab.length : Int) := by omega
          have hlL : j < L.length := by have := HLL.out; omega
          have hlL' : (j : Int) < (L.length : Int) := by omega
          have hwj : IntKind.u64.wrap (j : Int) = (j : Int) := by rw [IntKind.wrap_u64]; omega
          obtain ⟨bl, ol, hl1, hl2, hl3⟩ := HS3.out.l.tab (show 0 < L.length by omega)
          have cl := (HD.out.2.cell hl2).trans (hl3 j hlL)
          have hget := HGET.out j hlt hlL
          by_cases hin : a ≤ j ∧ j < a + n
          · obtain ⟨hd1, hv⟩ := hget.1 hin
            obtain ⟨bf, of, hf1, hf2, hf3⟩ := HFF.out (show 0 < f.length by omega)
            have cf' := (HD.out.1.cell hf2).trans (hf3 (j - a) hd1)
            rw [← hv] at cf'
            obtain ⟨d, hd⟩ : ∃ d, j - a = d := ⟨_, rfl⟩
            rw [hd] at cf' hd1
            have hd1' : (d : Int) < (f.length : Int) := by omega
            have hwd : IntKind.u64.wrap ((j : Int) - (a : Int)) = (d : Int) := by rw [IntKind.wrap_u64]; omega
            have h1 : (a : Int) ≤ (j : Int) := by omega
            have h2 : (j : Int) < (e : Int) := by have := HE.out; omega
            clear hget hv
            generalize L[j] = v at *
            rw [hl1] at m2
            clear hl1
            subst hf1
            clear hd hin hf2 hf3 hl2 hl3
            go_wp2
            go_quiet (fail)
            go_wp2
            go_roundw
            case rel => exact ⟨j + 1, by go_num, by omega, Lib.hid (HD.out.next ⟨rfl, rfl, rfl, Nat.le_refl _, fun _ _ => rfl⟩)⟩
            case measure => simp [intOf]; omega
          · have hv := hget.2 hin
            obtain ⟨bt, ot, ht1, ht2, ht3⟩ := HST.out.l.tab (show 0 < g.tab.length by omega)
            have cf' := (HD.out.1.cell ht2).trans (ht3 j hlt)
            rw [← hv] at cf'
            clear hget hv
            generalize L[j] = v at *
            rw [hl1] at m2
            rw [ht1] at k2
            clear hl1 ht1
            clear ht2 ht3 hl2 hl3
            by_cases h1 : a ≤ j
            · have h1' : (a : Int) ≤ (j : Int) := by omega
              have h2 : ¬ (j : Int) < (e : Int) := by have := HE.out; omega
              clear hin
              go_wp2
              go_quiet (fail)
              go_wp2
              go_roundw
              case rel => exact ⟨j + 1, by go_num, by omega, Lib.hid (HD.out.next ⟨rfl, rfl, rfl, Nat.le_refl _, fun _ _ => rfl⟩)⟩
              case measure => simp [intOf]; omega
            · have h1' : ¬ (a : Int) ≤ (j : Int) := by omega
              clear hin
              go_wp2
              go_quiet (fail)
              go_wp2
              go_roundw
              case rel => exact ⟨j + 1, by go_num, by omega, Lib.hid (HD.out.next ⟨rfl, rfl, rfl, Nat.le_refl _, fun _ _ => rfl⟩)⟩
              case measure => simp [intOf]; omega
end
end Go.Proofs.Ytdcolpmmojiffaa.Sto
