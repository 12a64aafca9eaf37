/-
  InsOneD: trammelref06.One: the instruction at a place, or the first error, where what follows the code is of one class (a, b). Conditions: the slice leads to bytes, at most 10000000.
-/
import Derived.Test.YtdipgokbfjbgfaaInsPats
import Derived.Test.YtdipgokbfjbgfaaInsOnes
import Derived.Test.YtdipgokbfjbgfaaTypAll
import Derived.Deep.DeepCutAuto
import Derived.Deep.CutBlock
namespace Go.Proofs.Ytdipgokbfjbgfaa.Ins
open Go.RowKit Leb Typ

set_option maxHeartbeats 8000000 in
set_option maxRecDepth 100000 in
theorem rone_runD (b off c p x : Nat) (l : List Nat) (w : World) (R : Ins × Nat × Nat) (hR : oneRes l p = R) (hp : p < l.length) (hlc : l.length ≤ c) (hl : l.length ≤ 10000000) (hb : Bytes w w.heap.size (some ⟨b, off, none⟩) l) (hx : l.getD p 0 = x) (hcell : w.cell? ⟨b, off + p, none⟩ = some (.int .u8 (x : Int))) (hblk : b < w.heap.size) (HS : Hid (∀ qs, pat (opOf l p) = some (some qs) → ∀ r ∈ qs, r = Part.a ∨ r = Part.b)) :
    Calls Try.prog 29 #[.slice (some ⟨b, off, none⟩) l.length c, .int .i64 (p : Int)] w (OneW w R) := by
  have hpi : ¬ (l.length : Int) ≤ (p : Int) := by omega
  have hpi2 : (p : Int) < (l.length : Int) := by omega
  have HR := Lib.hid hR
  have HB := Lib.hid hb
  have HX := Lib.hid hx
  have HLC := Lib.hid hlc
  have HL := Lib.hid hl
  have hx256 : x < 256 := by rw [← hx, List.getD_eq_getElem?_getD, List.getElem?_eq_getElem hp]; exact hb.1 _ (List.getElem_mem hp)
  have hx256i : (x : Int) < 256 := by omega
  have HOR := Lib.hid (or_of w 25)
  have hcell1 := (HOR.out.below.cell (p := ⟨b, off + p, none⟩) hblk).trans hcell
  have hsum : (p : Int) + 1 = ((p + 1 : Nat) : Int) := by omega
  clear hR hb hx hlc hl hx256 hcell
  generalize hq1 : p + 1 = q1 at *
  go_enter Try.func29, Try.ntmps29
  have hq1w : wrap64 (q1 : Int) = (q1 : Int) := IntWalk.wrap64_in _ (by have := HL.out; omega)
  go_upto_if 33 with fail
  generalize w.alloc _ = W at *
  simp only [hq1w]
  clear hcell1 hsum hpi hpi2 hq1w
  go_cut [1, 7] (fun s1 s7 wx => ∃ (op : Int) (q : Nat), s1 = .int .i64 (q : Int) ∧ s7 = .int .i64 op ∧ 0 ≤ op ∧ op ≤ 511 ∧ q ≤ l.length ∧ Hid (readRest l op q = R) ∧ Hid (OR w wx) ∧ Hid (op = opOf l p))
  case first =>
    by_cases h252 : x = 252
    · subst h252
      by_cases hqc : q1 = c
      · have hlen : q1 = l.length := by have := HLC.out; omega
        have hd : l.drop q1 = [] := List.drop_of_length_le (by omega)
        have HE : Hid (R = (zeroIns, 0, 1)) := Lib.hid (by rw [← HR.out]; unfold oneRes; rw [if_neg (by omega), if_pos HX.out, hq1, hd]; rfl)
        have HU : Hid (∀ W A c', Calls Try.prog 48 #[.slice A 0 c', .int .i64 32] W (TellsU W (0, 0, 1))) := Lib.hid fun W A c' => rU_any A [] c' 32 W ⟨by simp, by simp⟩ (by omega) (by omega)
        have hcl : c = l.length := by omega
        clear hd HR HB HX
        subst hcl
        subst hlen
        go_wp2_with fail
        refine (HU.out _ _ _).mono ?_
        rintro e w1 ⟨rfl, hb1⟩
        have HO1 := Lib.hid (HOR.out.keep hb1)
        clear HOR hb1 HU
        obtain ⟨_, _, r0, r1, r2, r3, r4, z0, z1, z2, z3, z4⟩ := HO1.out
        have hbR := (HO1.out).below
        go_wp2
        refine bodyPost_ret (v := .tuple #[.agg #[.int .i64 0, .int .i64 0, .int .i64 0, .int .i64 0, .slice none 0 0], .int .i64 0, .int .i64 1]) (by simp [results, Try.results29, go_sem, r0, r1, r2, r3, r4]) rfl ?_
        rw [HE.out]
        exact ⟨none, 0, 0, rfl, rfl, OwnI.nil _ _, ((((hbR.setCell (Nat.le_refl _) _).setCell (Nat.le_refl _) _).setCell (Nat.le_refl _) _).setCell (Nat.le_refl _) _).setCell (Nat.le_refl _) _⟩
      · have hqc' : q1 < c := by have := HLC.out; omega
        have hqle : q1 ≤ l.length := by omega
        have hqi : (q1 : Int) ≤ (l.length : Int) := by omega
        have hdl : (l.drop q1).length = l.length - q1 := by simp
        have hU := rU_any _ (l.drop q1) (c - q1) 32 W ((bytes_from (HB.out.below HOR.out.below) q1).more HOR.out.below.size) (by omega) (by omega)
        rw [hdl] at hU
        have HU := Lib.hid hU
        have h32 := uRes_32 (l.drop q1)
        have hone : oneRes l p = if (uRes (l.drop q1) 32).2.2 ≠ 0 then (zeroIns, 0, (uRes (l.drop q1) 32).2.2) else if 255 < (uRes (l.drop q1) 32).1 then (zeroIns, 0, 2) else readRest l (256 + ((uRes (l.drop q1) 32).1 : Int)) (q1 + (uRes (l.drop q1) 32).2.1) := by
          unfold oneRes; rw [if_neg (by omega), if_pos HX.out, hq1]
        rw [hdl] at h32
        rw [HR.out] at hone
        have HXK := Lib.hid HX.out
        obtain ⟨n, s, e, hue⟩ : ∃ n s e, uRes (l.drop q1) 32 = (n, s, e) := ⟨_, _, _, rfl⟩
        have HUK := Lib.hid hue
        rw [hue] at HU hone h32
        clear hdl hU HR HB HX hqc hue
        simp only at hone h32
        by_cases he : e = 0
        · subst he
          obtain ⟨h1, h2, h3⟩ := h32 rfl
          rw [if_neg (by simp)] at hone
          by_cases hn : 255 < n
          · rw [if_pos hn] at hone
            have HE := Lib.hid hone
            have hni : (255 : Int) < (n : Int) := by omega
            clear hone h32 h1
            go_wp2_with fail
            refine HU.out.mono ?_
            rintro e w1 ⟨rfl, hb1⟩
            have HO1 := Lib.hid (HOR.out.keep hb1)
            clear HOR hb1 HU
            obtain ⟨_, _, r0, r1, r2, r3, r4, z0, z1, z2, z3, z4⟩ := HO1.out
            have hbR := (HO1.out).below
            go_wp2
            refine bodyPost_ret (v := .tuple #[.agg #[.int .i64 0, .int .i64 0, .int .i64 0, .int .i64 0, .slice none 0 0], .int .i64 0, .int .i64 2]) (by simp [results, Try.results29, go_sem, r0, r1, r2, r3, r4]) rfl ?_
            rw [HE.out]
            exact ⟨none, 0, 0, rfl, rfl, OwnI.nil _ _, ((((hbR.setCell (Nat.le_refl _) _).setCell (Nat.le_refl _) _).setCell (Nat.le_refl _) _).setCell (Nat.le_refl _) _).setCell (Nat.le_refl _) _⟩
          · rw [if_neg hn] at hone
            have hni : ¬ (255 : Int) < (n : Int) := by omega
            obtain ⟨q2, hq2, hqs, hqsw, hle⟩ := add_facts h3 hqle HL.out
            obtain ⟨ov, hov, how, hov0, hov1⟩ := op_facts hn
            rw [hq2, hov] at hone
            have HE := Lib.hid hone
            have HOV := Lib.hid (And.intro hov0 hov1)
            have HOP : Hid (ov = opOf l p) := Lib.hid (by unfold opOf; rw [if_pos HXK.out, hq1, HUK.out, ← hov])
            have HQW := Lib.hid hqsw
            have HOW := Lib.hid how
            clear hone h32 h1 h2 h3 hq2 hov0 hov1 hn hqsw how
            go_wp2_with fail
            refine HU.out.mono ?_
            rintro e w1 ⟨rfl, hb1⟩
            have HO1 := Lib.hid (HOR.out.keep hb1)
            clear HOR hb1 HU
            go_wp2
            go_meet
            exact ⟨ov, q2, by first | rfl | rw [HQW.out] | rw [hqs, HQW.out], by first | rfl | rw [HOW.out] | rw [hov, HOW.out], HOV.out.1, HOV.out.2, hle, Lib.hid HE.out.symm, HO1, HOP⟩
        · rw [if_pos he] at hone
          have HE := Lib.hid hone
          have hne : ((e : Int) != 0) = true := by simp; omega
          clear hone h32 he
          go_wp2_with fail
          refine HU.out.mono ?_
          rintro e w1 ⟨rfl, hb1⟩
          have HO1 := Lib.hid (HOR.out.keep hb1)
          clear HOR hb1 HU
          obtain ⟨_, _, r0, r1, r2, r3, r4, z0, z1, z2, z3, z4⟩ := HO1.out
          have hbR := (HO1.out).below
          go_wp2
          refine bodyPost_ret (v := .tuple #[.agg #[.int .i64 0, .int .i64 0, .int .i64 0, .int .i64 0, .slice none 0 0], .int .i64 0, .int .i64 (e : Int)]) (by simp [results, Try.results29, go_sem, r0, r1, r2, r3, r4]) rfl ?_
          rw [HE.out]
          exact ⟨none, 0, 0, rfl, rfl, OwnI.nil _ _, ((((hbR.setCell (Nat.le_refl _) _).setCell (Nat.le_refl _) _).setCell (Nat.le_refl _) _).setCell (Nat.le_refl _) _).setCell (Nat.le_refl _) _⟩
    · have hbe : ((x : Int) == 252) = false := by simp; omega
      have HE : Hid (readRest l (x : Int) q1 = R) := Lib.hid (by rw [← HR.out]; unfold oneRes; rw [if_neg (by omega), if_neg (by rw [HX.out]; exact h252), HX.out, hq1])
      have HOP : Hid ((x : Int) = opOf l p) := Lib.hid (by unfold opOf; rw [if_neg (by rw [HX.out]; exact h252), HX.out])
      clear HR HB HX
      go_wp2
      go_meet
      exact ⟨(x : Int), q1, rfl, rfl, by omega, by omega, by omega, HE, HOR, HOP⟩
  case rest =>
    obtain ⟨op, q, rfl, rfl, hop0, hop1, hql, HRR, HO, HOP⟩ := hcut
    clear HOR HR HX hx256i
    have HX0 := Lib.hid (ox_of HO.out op 25)
    go_wp2_with fail
    refine (pattern_any op _).mono ?_
    rintro e w2 ⟨rfl, hb2⟩
    have HX2 := Lib.hid (HX0.out.keep hb2)
    clear HX0 hb2 HO
    generalize wc.heap.size = g at *
    cases hpat : pat op with
    | none =>
      have hst : patStr op = ⟨#[]⟩ := by unfold patStr chars; rw [hpat]
      have HE : Hid (R = (zeroIns, 0, 2)) := Lib.hid (by rw [← HRR.out]; unfold readRest; rw [hpat])
      rw [hst]
      clear hpat hst HRR
      obtain ⟨_, _, r0, r1, r2, r3, r4, z0, z1, z2, z3, z4⟩ := HX2.out.res
      have hbR := (HX2.out.res).below
      go_wp2
      refine bodyPost_ret (v := .tuple #[.agg #[.int .i64 0, .int .i64 0, .int .i64 0, .int .i64 0, .slice none 0 0], .int .i64 0, .int .i64 2]) (by simp [results, Try.results29, go_sem, r0, r1, r2, r3, r4]) rfl ?_
      rw [HE.out]
      exact ⟨none, 0, 0, rfl, rfl, OwnI.nil _ _, ((((hbR.setCell (Nat.le_refl _) _).setCell (Nat.le_refl _) _).setCell (Nat.le_refl _) _).setCell (Nat.le_refl _) _).setCell (Nat.le_refl _) _⟩
    | some o =>
      cases o with
      | none =>
        have hst : patStr op = ⟨#[63]⟩ := by unfold patStr chars; rw [hpat]
        have HE : Hid (R = (zeroIns, 0, 3)) := Lib.hid (by rw [← HRR.out]; unfold readRest; rw [hpat])
        rw [hst]
        clear hpat hst HRR
        obtain ⟨_, _, r0, r1, r2, r3, r4, z0, z1, z2, z3, z4⟩ := HX2.out.res
        have hbR := (HX2.out.res).below
        go_wp2
        refine bodyPost_ret (v := .tuple #[.agg #[.int .i64 0, .int .i64 0, .int .i64 0, .int .i64 0, .slice none 0 0], .int .i64 0, .int .i64 3]) (by simp [results, Try.results29, go_sem, r0, r1, r2, r3, r4]) rfl ?_
        rw [HE.out]
        exact ⟨none, 0, 0, rfl, rfl, OwnI.nil _ _, ((((hbR.setCell (Nat.le_refl _) _).setCell (Nat.le_refl _) _).setCell (Nat.le_refl _) _).setCell (Nat.le_refl _) _).setCell (Nat.le_refl _) _⟩
      | some qs =>
        have hst : patStr op = ⟨(partChars qs).toArray⟩ := by unfold patStr chars; rw [hpat]
        have HRC : Hid (readChars l (partChars qs) q { zeroIns with op := op } = R) := Lib.hid (by rw [← HRR.out, readRest_mk hpat, readChars_parts])
        have HCH := Lib.hid (partChars_in2 qs)
        have HCLS := Lib.hid (HS.out qs (by rw [← HOP.out]; exact hpat))
        have HL0 := Lib.hid (chr_first op qs hpat)
        have HLN : Hid (1 ≤ (partChars qs).length ∧ (partChars qs).length ≤ 2) := Lib.hid (partChars_len qs (pat_len op qs hpat))
        have hne1 : (partChars qs == []) = false := str_ne1 _ HLN.out.1
        have hne2 : (partChars qs == [63]) = false := str_ne2 _ (partChars_in qs)
        rw [hst]
        clear hpat hst HRR
        generalize partChars qs = cs at *
        go_wp2
        go_loopw [1, 13] (fun s1 s13 wr => ∃ (i q : Nat) (y : Ins) (v : Value), i ≤ cs.length ∧ q ≤ l.length ∧ s1 = .int .i64 (q : Int) ∧ s13 = .int .i64 (i : Int) ∧ Hid (OX w wr g y v) ∧ Hid (readChars l (cs.drop i) q y = R) ∧ Hid (i = 0 → y.l = [])) (fun _ s13 _ => cs.length - (intOf s13).toNat)
        case atStart => exact ⟨0, q, _, _, Nat.zero_le _, hql, rfl, rfl, HX2, HRC, Lib.hid (fun _ => rfl)⟩
        case round =>
          obtain ⟨i, q', y, v, hi, hq', rfl, rfl, HXi, HRi, HY0⟩ := hrel
          clear HX2 HRC hql hne1 hne2 hq1 hp
          by_cases hlt : i < cs.length
          · have hlti : (i : Int) < (cs.length : Int) := by omega
            have hi2 : (i : Int) < 2 := by have := HLN.out.2; omega
            have HSP := Lib.hid (readChars_step l cs i q' y R hlt HRi.out)
            have hch0 := HCH.out _ (List.getElem_mem hlt)
            have HCH0 := Lib.hid hch0
            have hix := fun W => str_index Try.underlying9 cs i hlt W
            obtain ⟨cn, hcn⟩ : ∃ cn, cs[i].toNat = cn := ⟨_, rfl⟩
            rw [hcn] at hix
            have HCN := Lib.hid hcn
            clear HRi hch0 hcn
            go_upto_block 2 with fail
            go_cut [14, 15] (fun s14 s15 wx => ∃ (sz er : Nat) (y' : Ins) (v' : Value), s14 = .int .i64 (sz : Int) ∧ s15 = .int .i64 (er : Int) ∧ Hid (OX w wx g y' v') ∧ Hid (StepIs l q' y cs[i] y' sz er))
            case first =>
              clear HSP
              have hcn := HCN.out
              rcases HCH0.out with hch | ⟨r, hr, hch⟩
              · have hcn' : cn = 46 := by rw [← hcn, hch]; rfl
                subst hcn'
                have HST : Hid (StepIs l q' y cs[i] y 0 0) := Lib.hid (by rw [hch]; exact step_dot l q' y hq')
                clear hch hcn HCN HCH0
                go_wp2
                go_meet
                exact ⟨0, 0, _, _, rfl, rfl, HXi, HST⟩
              · have hcl := HCLS.out r hr
                cases r with
              | t =>
                exact absurd hcl (by decide)
              | a =>
                have hcn' : cn = 97 := by rw [← hcn, hch]; rfl
                subst hcn'
                by_cases hqc : q' = c
                · have hlen : q' = l.length := by have := HLC.out; omega
                  have hd : l.drop q' = [] := List.drop_of_length_le (by omega)
                  have HU : Hid (∀ W A c', Calls Try.prog 48 #[.slice A 0 c', .int .i64 32] W (TellsU W (0, 0, 1))) := Lib.hid fun W A c' => rU_any A [] c' 32 W ⟨by simp, by simp⟩ (by omega) (by omega)
                  have HST : Hid (StepIs l q' y cs[i] { y with a := 0 } 0 1) := Lib.hid (by rw [hch]; exact step_a y (by rw [hd]; rfl) hq')
                  have hcl : c = l.length := by omega
                  clear hd HB hqc
                  subst hcl
                  subst hlen
                  go_wp2_with fail
                  refine (HU.out _ _ _).mono ?_
                  rintro e w3 ⟨rfl, hb3⟩
                  have HX3 := Lib.hid (HXi.out.keep hb3)
                  have xc := HX3.out.x1
                  have fc := HX3.out.f1
                  have HX4 := Lib.hid (HX3.out.setA 0)
                  clear HXi hb3 HU HX3
                  go_wp2
                  generalize w3.setCell _ _ = w4 at *
                  clear xc fc
                  go_loopw [14, 15] (fun s14 s15 wr => s14 = .int .i64 0 ∧ s15 = .int .i64 1 ∧ Hid (OX w wr g { y with a := 0 } v)) (fun _ _ _ => 0)
                  case atStart => exact ⟨rfl, rfl, HX4⟩
                  case round =>
                    obtain ⟨rfl, rfl, HX5⟩ := hrel
                    clear HX4
                    go_wp2
                    go_meet
                    exact ⟨0, 1, _, _, rfl, rfl, HX5, HST⟩
                · have hqc' : q' < c := by have := HLC.out; omega
                  have hqi : (q' : Int) ≤ (l.length : Int) := by omega
                  have hdl : (l.drop q').length = l.length - q' := by simp
                  have hU := rU_any _ (l.drop q') (c - q') 32 wr ((bytes_from (HB.out.below HXi.out.below) q').more HXi.out.below.size) (by omega) (by omega)
                  rw [hdl] at hU
                  have hst := fun n sz er (h : uRes (l.drop q') 32 = (n, sz, er)) => step_a y h hq'
                  have hlt32 := uRes_lt (l.drop q')
                  have HU := Lib.hid hU
                  clear hU hdl HB hqc
                  generalize uRes (l.drop q') 32 = gg at *
                  obtain ⟨n, sz, er⟩ := gg
                  have HST : Hid (StepIs l q' y cs[i] { y with a := (n : Int) } sz er) := Lib.hid (by rw [hch]; exact hst n sz er rfl)
                  have huw : wrap64 (n : Int) = (n : Int) := IntWalk.wrap64_in _ (by simp only at hlt32; omega)
                  clear hst hlt32
                  go_wp2_with fail
                  refine (HU.out).mono ?_
                  rintro e w3 ⟨rfl, hb3⟩
                  have HX3 := Lib.hid (HXi.out.keep hb3)
                  have xc := HX3.out.x1
                  have fc := HX3.out.f1
                  have HX4 := Lib.hid (HX3.out.setA (n : Int))
                  clear HXi hb3 HU HX3
                  go_wp2
                  generalize w3.setCell _ _ = w4 at *
                  clear xc fc
                  go_loopw [14, 15] (fun s14 s15 wr => s14 = .int .i64 (sz : Int) ∧ s15 = .int .i64 (er : Int) ∧ Hid (OX w wr g { y with a := (n : Int) } v)) (fun _ _ _ => 0)
                  case atStart => exact ⟨rfl, rfl, HX4⟩
                  case round =>
                    obtain ⟨rfl, rfl, HX5⟩ := hrel
                    clear HX4
                    go_wp2
                    go_meet
                    exact ⟨sz, er, _, _, rfl, rfl, HX5, HST⟩
              | b =>
                have hcn' : cn = 98 := by rw [← hcn, hch]; rfl
                subst hcn'
                by_cases hqc : q' = c
                · have hlen : q' = l.length := by have := HLC.out; omega
                  have hd : l.drop q' = [] := List.drop_of_length_le (by omega)
                  have HU : Hid (∀ W A c', Calls Try.prog 48 #[.slice A 0 c', .int .i64 32] W (TellsU W (0, 0, 1))) := Lib.hid fun W A c' => rU_any A [] c' 32 W ⟨by simp, by simp⟩ (by omega) (by omega)
                  have HST : Hid (StepIs l q' y cs[i] { y with b := 0 } 0 1) := Lib.hid (by rw [hch]; exact step_b y (by rw [hd]; rfl) hq')
                  have hcl : c = l.length := by omega
                  clear hd HB hqc
                  subst hcl
                  subst hlen
                  go_wp2_with fail
                  refine (HU.out _ _ _).mono ?_
                  rintro e w3 ⟨rfl, hb3⟩
                  have HX3 := Lib.hid (HXi.out.keep hb3)
                  have xc := HX3.out.x2
                  have fc := HX3.out.f2
                  have HX4 := Lib.hid (HX3.out.setB 0)
                  clear HXi hb3 HU HX3
                  go_wp2
                  generalize w3.setCell _ _ = w4 at *
                  clear xc fc
                  go_loopw [14, 15] (fun s14 s15 wr => s14 = .int .i64 0 ∧ s15 = .int .i64 1 ∧ Hid (OX w wr g { y with b := 0 } v)) (fun _ _ _ => 0)
                  case atStart => exact ⟨rfl, rfl, HX4⟩
                  case round =>
                    obtain ⟨rfl, rfl, HX5⟩ := hrel
                    clear HX4
                    go_wp2
                    go_meet
                    exact ⟨0, 1, _, _, rfl, rfl, HX5, HST⟩
                · have hqc' : q' < c := by have := HLC.out; omega
                  have hqi : (q' : Int) ≤ (l.length : Int) := by omega
                  have hdl : (l.drop q').length = l.length - q' := by simp
                  have hU := rU_any _ (l.drop q') (c - q') 32 wr ((bytes_from (HB.out.below HXi.out.below) q').more HXi.out.below.size) (by omega) (by omega)
                  rw [hdl] at hU
                  have hst := fun n sz er (h : uRes (l.drop q') 32 = (n, sz, er)) => step_b y h hq'
                  have hlt32 := uRes_lt (l.drop q')
                  have HU := Lib.hid hU
                  clear hU hdl HB hqc
                  generalize uRes (l.drop q') 32 = gg at *
                  obtain ⟨n, sz, er⟩ := gg
                  have HST : Hid (StepIs l q' y cs[i] { y with b := (n : Int) } sz er) := Lib.hid (by rw [hch]; exact hst n sz er rfl)
                  have huw : wrap64 (n : Int) = (n : Int) := IntWalk.wrap64_in _ (by simp only at hlt32; omega)
                  clear hst hlt32
                  go_wp2_with fail
                  refine (HU.out).mono ?_
                  rintro e w3 ⟨rfl, hb3⟩
                  have HX3 := Lib.hid (HXi.out.keep hb3)
                  have xc := HX3.out.x2
                  have fc := HX3.out.f2
                  have HX4 := Lib.hid (HX3.out.setB (n : Int))
                  clear HXi hb3 HU HX3
                  go_wp2
                  generalize w3.setCell _ _ = w4 at *
                  clear xc fc
                  go_loopw [14, 15] (fun s14 s15 wr => s14 = .int .i64 (sz : Int) ∧ s15 = .int .i64 (er : Int) ∧ Hid (OX w wr g { y with b := (n : Int) } v)) (fun _ _ _ => 0)
                  case atStart => exact ⟨rfl, rfl, HX4⟩
                  case round =>
                    obtain ⟨rfl, rfl, HX5⟩ := hrel
                    clear HX4
                    go_wp2
                    go_meet
                    exact ⟨sz, er, _, _, rfl, rfl, HX5, HST⟩
              | l =>
                exact absurd hcl (by decide)
              | k =>
                exact absurd hcl (by decide)
              | kk =>
                exact absurd hcl (by decide)
              | z =>
                exact absurd hcl (by decide)
            case rest =>
              obtain ⟨sz, er, y', v', rfl, rfl, HX4, HST⟩ := hcut
              clear HXi HCN HCH0 hix
              by_cases her : er = 0
              · subst her
                obtain ⟨hst, hle⟩ := HST.out.2 rfl
                have HRN : Hid (readChars l (cs.drop (i + 1)) (q' + sz) y' = R) := Lib.hid (by have := HSP.out.2 (by rw [hst]); rw [hst] at this; exact this)
                obtain ⟨q2, hq2⟩ : ∃ q2, q' + sz = q2 := ⟨_, rfl⟩
                rw [hq2] at HRN hle
                have hqs : (q' : Int) + (sz : Int) = (q2 : Int) := by omega
                have HQW : Hid (wrap64 (q2 : Int) = (q2 : Int)) := Lib.hid (IntWalk.wrap64_in _ (by have := HL.out; omega))
                clear hst hq2 HSP HST
                go_wp2
                go_roundw
                case rel => exact ⟨i + 1, q2, y', v', by omega, hle, by first | rfl | rw [HQW.out] | rw [hqs, HQW.out], by go_num, HX4, HRN, Lib.hid (fun h => by omega)⟩
                case measure => simp [intOf]; omega
              · have hne : ((er : Int) != 0) = true := by simp; omega
                have HE : Hid (R = (zeroIns, 0, er)) := Lib.hid (by have := HSP.out.1 (by rw [HST.out.1 her]; exact her); rw [HST.out.1 her] at this; exact this)
                clear HSP HST her
                obtain ⟨_, _, r0, r1, r2, r3, r4, z0, z1, z2, z3, z4⟩ := HX4.out.res
                have hbR := (HX4.out.res).below
                go_wp2
                refine bodyPost_ret (v := .tuple #[.agg #[.int .i64 0, .int .i64 0, .int .i64 0, .int .i64 0, .slice none 0 0], .int .i64 0, .int .i64 (er : Int)]) (by simp [results, Try.results29, go_sem, r0, r1, r2, r3, r4]) rfl ?_
                rw [HE.out]
                exact ⟨none, 0, 0, rfl, rfl, OwnI.nil _ _, ((((hbR.setCell (Nat.le_refl _) _).setCell (Nat.le_refl _) _).setCell (Nat.le_refl _) _).setCell (Nat.le_refl _) _).setCell (Nat.le_refl _) _⟩
          · have hlti : ¬ (i : Int) < (cs.length : Int) := by omega
            have HE : Hid (R = (y, q', 0)) := Lib.hid (by rw [← HRi.out, List.drop_of_length_le (by omega)]; rfl)
            obtain ⟨A5, k5, hv5, _, _, _⟩ := HXi.out.own.ints
            subst hv5
            obtain ⟨hres, hlo, _, x0, x1, x2, x3, x4, _, _, _, _, _, hown⟩ := HXi.out
            obtain ⟨_, _, r0, r1, r2, r3, r4, z0, z1, z2, z3, z4⟩ := hres
            have hbR := HXi.out.below
            have HO := Lib.hid hown
            have HLO := Lib.hid hlo
            clear HRi HXi hown hlo
            generalize hn5 : y.l.length = n5 at *
            go_wp2
            refine bodyPost_ret (v := .tuple #[.agg #[.int .i64 y.op, .int .i64 y.a, .int .i64 y.b, .int .i64 y.k, .slice A5 n5 k5], .int .i64 (q' : Int), .int .i64 0]) (by simp [results, Try.results29, go_sem, r0, r1, r2, r3, r4]) rfl ?_
            rw [HE.out]
            have hlo := HLO.out
            have ho5 := ((((HO.out.setBelow (a := ⟨w.heap.size, 0, none⟩) (by simp; omega) (.int .i64 y.op)).setBelow (a := ⟨w.heap.size, 1, none⟩) (by simp; omega) (.int .i64 y.a)).setBelow (a := ⟨w.heap.size, 2, none⟩) (by simp; omega) (.int .i64 y.b)).setBelow (a := ⟨w.heap.size, 3, none⟩) (by simp; omega) (.int .i64 y.k)).setBelow (a := ⟨w.heap.size, 4, none⟩) (by simp; omega) (.slice A5 n5 k5)
            exact ⟨A5, k5, n5, hn5.symm, rfl, ownI_le ho5 (by omega), ((((hbR.setCell (Nat.le_refl _) _).setCell (Nat.le_refl _) _).setCell (Nat.le_refl _) _).setCell (Nat.le_refl _) _).setCell (Nat.le_refl _) _⟩
end Go.Proofs.Ytdipgokbfjbgfaa.Ins
