/-
  What is read is formed, and put again it has no more bytes than it had: plain lists. Conditions as each lemma says; nothing of the program.
-/
import Derived.Test.YtdipgokbfjbgfaaInsCut
namespace Go.Proofs.Ytdipgokbfjbgfaa.Ins
open Go.RowKit Leb Typ

theorem uTaken {l : List Nat} {u s : Nat} (h : uRes l 32 = (u, s, 0)) : (putU u).length ≤ s ∧ u < 4294967296 := by
  obtain ⟨h1, _⟩ := uRes_is h
  obtain ⟨_, h3, rfl, h5⟩ := gath_is h1
  have h6 := uRes_32 l (by rw [h])
  rw [h] at h6
  refine ⟨?_, h6.1⟩
  have hv : u < 128 ^ (lead l + 1) := by
    rw [h5]
    unfold gv
    have := val_lt (l.take (lead l + 1))
    rw [List.length_take, Nat.min_eq_left (by omega)] at this
    exact Nat.lt_of_le_of_lt (Nat.mod_le _ _) this
  exact putUf_least 9 u _ (by omega) hv
/-- A signed number that was read: what its bytes are worth. -/
theorem sTaken {l : List Nat} {n s : Nat} {v : Int} (h10 : most n ≤ 10) (h : sRes l n = (v, s, 0)) : s = lead l + 1 ∧ s ≤ most n ∧ s ≤ l.length ∧ v = ext (val (l.take s) % big : Nat) ((s : Int) * 7) ∧ val (l.take s) < 128 ^ s ∧ (putS v).length ≤ s ∧ ¬ (s = most n ∧ csB (l.getD (most n - 1) 0 : Nat) (inl n : Nat) = false) := by
  obtain ⟨u, h1, h2, h3⟩ := sRes_is h
  obtain ⟨h4, h5, rfl, h7⟩ := gath_is h1
  have hv := val_lt (l.take (lead l + 1))
  rw [List.length_take, Nat.min_eq_left (by omega)] at hv
  unfold gv at h7
  subst h7
  have hf := ext_fits (lead l + 1) (val (l.take (lead l + 1))) (by omega) (by omega) hv
  refine ⟨rfl, by omega, by omega, ?_, hv, ?_, h2⟩
  · rw [h3]
  · rw [h3]
    exact putSf_least 9 _ _ (by omega) hf
theorem sTaken_small {l : List Nat} {n s : Nat} {v : Int} (hn : most n = 5) (h : sRes l n = (v, s, 0)) (hs : s < 5) : -134217728 ≤ v ∧ v < 134217728 := by
  obtain ⟨h1, h2, h3, h4, h5, _, _⟩ := sTaken (by omega) h
  have hf := ext_fits s (val (l.take s)) (by omega) (by omega) h5
  rw [← h4] at hf
  have : s = 1 ∨ s = 2 ∨ s = 3 ∨ s = 4 := by omega
  rcases this with rfl | rfl | rfl | rfl
  · have e : (64 : Int) * 128 ^ (1 - 1) = 64 := by decide
    rw [e] at hf; omega
  · have e : (64 : Int) * 128 ^ (2 - 1) = 8192 := by decide
    rw [e] at hf; omega
  · have e : (64 : Int) * 128 ^ (3 - 1) = 1048576 := by decide
    rw [e] at hf; omega
  · have e : (64 : Int) * 128 ^ (4 - 1) = 134217728 := by decide
    rw [e] at hf; omega
/-- Five bytes: the last one, and what the first four are worth. -/
theorem sTaken_five {l : List Nat} {n : Nat} {v : Int} (hn : most n = 5) (h : sRes l n = (v, 5, 0)) : ∃ x y : Nat, x < 128 ∧ y < 268435456 ∧ l.getD 4 0 = x ∧ csB (x : Nat) (inl n : Nat) = true ∧ v = if y + x * 268435456 < 17179869184 then ((y + x * 268435456 : Nat) : Int) else ((y + x * 268435456 : Nat) : Int) - 34359738368 := by
  obtain ⟨h1, h2, h3, h4, h5, _, h7⟩ := sTaken (by omega) h
  have hl4 : lead l = 4 := by omega
  have hx : l[4]'(by omega) < 128 := by
    have := lead_lt l (by omega)
    simp only [hl4] at this
    exact this
  have hd : l.getD 4 0 = l[4]'(by omega) := by simp [List.getD, List.getElem?_eq_getElem (show 4 < l.length by omega)]
  have hv4 := val_lt (l.take 4)
  rw [List.length_take, Nat.min_eq_left (by omega)] at hv4
  have hvt := val_take l 4 (by omega)
  rw [Nat.mod_eq_of_lt hx] at hvt
  have e28 : (2 : Nat) ^ (7 * 4) = 268435456 := by decide
  have e4 : (128 : Nat) ^ 4 = 268435456 := by decide
  have e5 : (128 : Nat) ^ 5 = 34359738368 := by decide
  rw [e28] at hvt
  rw [e4] at hv4
  refine ⟨l[4]'(by omega), val (l.take 4), hx, hv4, hd, ?_, ?_⟩
  · rw [hn, ← hd] at *
    have h8 : ¬ csB (l.getD 4 0 : Nat) (inl n : Nat) = false := fun h => h7 ⟨rfl, h⟩
    simpa using h8
  · rw [h4]
    have hb : val (l.take 5) % big = val (l.take 5) := Nat.mod_eq_of_lt (by unfold big; omega)
    rw [hb, ext_val 5 (val (l.take 5)) (by omega) (by omega) h5, hvt]
    have e6 : (64 : Nat) * 128 ^ (5 - 1) = 17179869184 := by decide
    have e7 : ((128 : Int)) ^ 5 = 34359738368 := by decide
    rw [e6, e7]
theorem csB_32 (x : Nat) (hx : x < 128) (h : csB (x : Nat) (inl 32 : Nat) = true) : x < 8 ∨ 120 ≤ x := by
  have hi : inl 32 = 4 := by decide
  rw [hi] at h
  unfold csB at h
  simp only [Bool.or_eq_true, beq_iff_eq] at h
  have e : ((4 : Nat) : Int).toNat - 1 = 3 := by decide
  rw [e] at h
  have e2 : (2 : Int) ^ 3 = 8 := by decide
  rw [e2] at h
  omega
theorem csB_33 (x : Nat) (hx : x < 128) (h : csB (x : Nat) (inl 33 : Nat) = true) : x < 16 ∨ 112 ≤ x := by
  have hi : inl 33 = 5 := by decide
  rw [hi] at h
  unfold csB at h
  simp only [Bool.or_eq_true, beq_iff_eq] at h
  have e : ((5 : Nat) : Int).toNat - 1 = 4 := by decide
  rw [e] at h
  have e2 : (2 : Int) ^ 4 = 16 := by decide
  rw [e2] at h
  omega
theorem sTaken_32 {l : List Nat} {s : Nat} {v : Int} (h : sRes l 32 = (v, s, 0)) : -2147483648 ≤ v ∧ v ≤ 2147483647 := by
  have hm : most 32 = 5 := by decide
  obtain ⟨_, h2, _, _⟩ := sTaken (by omega) h
  by_cases hs : s < 5
  · have := sTaken_small hm h hs
    omega
  · obtain rfl : s = 5 := by omega
    obtain ⟨x, y, hx, hy, _, hc, rfl⟩ := sTaken_five hm h
    have := csB_32 x hx hc
    split <;> omega
theorem sTaken_33 {l : List Nat} {s : Nat} {v : Int} (h : sRes l 33 = (v, s, 0)) : -4294967296 ≤ v ∧ v ≤ 4294967295 := by
  have hm : most 33 = 5 := by decide
  obtain ⟨_, h2, _, _⟩ := sTaken (by omega) h
  by_cases hs : s < 5
  · have := sTaken_small hm h hs
    omega
  · obtain rfl : s = 5 := by omega
    obtain ⟨x, y, hx, hy, _, hc, rfl⟩ := sTaken_five hm h
    have := csB_33 x hx hc
    split <;> omega
theorem sTaken_64 {l : List Nat} {s : Nat} {v : Int} (h : sRes l 64 = (v, s, 0)) : -9223372036854775808 ≤ v ∧ v ≤ 9223372036854775807 := by
  have hm : most 64 = 10 := by decide
  obtain ⟨h1, h2, _, h4, h5, _, _⟩ := sTaken (by omega) h
  by_cases hs : s < 10
  · have hf := ext_fits s (val (l.take s)) (by omega) (by omega) h5
    rw [← h4] at hf
    have hp : (128 : Nat) ^ (s - 1) ≤ 128 ^ 8 := Nat.pow_le_pow_right (by omega) (by omega)
    have hp2 : (128 : Int) ^ (s - 1) ≤ 72057594037927936 := by
      have e : (128 : Nat) ^ 8 = 72057594037927936 := by decide
      have e2 : (128 : Int) ^ (s - 1) = ((128 ^ (s - 1) : Nat) : Int) := by rw [Int.natCast_pow]; rfl
      rw [e] at hp
      rw [e2]
      omega
    omega
  · obtain rfl : s = 10 := by omega
    rw [h4]
    have := ext_ten (val (l.take 10) % big)
    rw [this]
    unfold wrap64
    omega
theorem valOf_0 (x : Nat) (h : (Typ.valOf x).2 = 0) : x = 127 ∨ x = 126 := by
  rcases valOf_cases x with h1 | h1 | h1
  · exact h1.2
  · rw [h1] at h; simp at h
  · rw [h1] at h; simp at h
theorem blockTaken {l : List Nat} {t : Int} {s : Nat} (h : blockRes l = (t, s, 0)) : rightBlock t = true ∧ (putS t).length ≤ s := by
  obtain ⟨h0, ⟨rfl, ⟨_, rfl⟩ | ⟨_, h2, rfl⟩⟩ | ⟨_, _, _, h4, h5⟩⟩ := blockRes_is h
  · exact ⟨by decide, by decide⟩
  · rcases valOf_0 _ h2 with e | e
    · rw [e]; exact ⟨by decide, by decide⟩
    · rw [e]; exact ⟨by decide, by decide⟩
  · have h6 := sTaken_33 h4
    obtain ⟨_, _, _, _, _, h7, _⟩ := sTaken (by decide) h4
    exact ⟨by unfold rightBlock; exact decide_eq_true (.inr (.inr (.inr ⟨h5, h6.2⟩))), h7⟩
theorem labelsTaken {bs : List Nat} {n p q : Nat} {xs : List Int} (h : readLabels bs n p = (xs, q, 0)) : xs.length = n ∧ (∀ x ∈ xs, fitsU x) ∧ p + (labelBytes xs).length ≤ q := by
  induction n generalizing p xs with
  | zero =>
    simp only [readLabels, Prod.mk.injEq] at h
    obtain ⟨rfl, rfl, _⟩ := h
    simp [labelBytes]
  | succ n ih =>
    obtain ⟨u, s, ys, h1, h2, rfl⟩ := readLabels_is h
    obtain ⟨i1, i2, i3⟩ := ih h2
    obtain ⟨u1, u2⟩ := uTaken h1
    have e : labelBytes ((u : Int) :: ys) = putU u ++ labelBytes ys := by simp [labelBytes]
    refine ⟨by simp [i1], ?_, ?_⟩
    · intro x hx
      rcases List.mem_cons.1 hx with rfl | hx
      · unfold fitsU; omega
      · exact i2 x hx
    · rw [e, List.length_append]; omega
/-- Which field a part is. -/
def fld : Part → Nat
  | .t => 0
  | .a => 0
  | .b => 1
  | .l => 2
  | .k => 3
  | .kk => 3
  | .z => 4
/-- A part that was read fits, and put again it is no longer; what else there was has stayed. -/
theorem partTaken {bs : List Nat} {p q : Nat} {x y : Ins} {r : Part} (h : readPart bs p x r = (y, q, 0)) : partFits y r ∧ p + (partBytes y r).length ≤ q ∧ setPart y x r = y ∧ y.op = x.op := by
  cases r with
  | t =>
    simp only [readPart, Prod.mk.injEq] at h
    have := blockTaken (eta3 h.2.2)
    obtain ⟨rfl, rfl, _⟩ := h
    exact ⟨this.1, Nat.add_le_add_left this.2 _, rfl, rfl⟩
  | a =>
    simp only [readPart, Prod.mk.injEq] at h
    have := uTaken (eta3 h.2.2)
    obtain ⟨rfl, rfl, _⟩ := h
    exact ⟨⟨Int.natCast_nonneg _, by show ((uRes (bs.drop p) 32).1 : Int) ≤ 4294967295; omega⟩, Nat.add_le_add_left this.1 _, rfl, rfl⟩
  | b =>
    simp only [readPart, Prod.mk.injEq] at h
    have := uTaken (eta3 h.2.2)
    obtain ⟨rfl, rfl, _⟩ := h
    exact ⟨⟨Int.natCast_nonneg _, by show ((uRes (bs.drop p) 32).1 : Int) ≤ 4294967295; omega⟩, Nat.add_le_add_left this.1 _, rfl, rfl⟩
  | l =>
    obtain ⟨n, s, h1, h2, xs, h3, rfl⟩ := readPart_l_is h
    obtain ⟨l1, l2, l3⟩ := labelsTaken h3
    obtain ⟨u1, _⟩ := uTaken h1
    refine ⟨⟨by simp only [l1]; exact h2, l2⟩, ?_, rfl, rfl⟩
    simp only [partBytes, List.length_append, l1]
    omega
  | k =>
    simp only [readPart, Prod.mk.injEq] at h
    have h1 := sTaken_32 (eta3 h.2.2)
    obtain ⟨_, _, _, _, _, h7, _⟩ := sTaken (by decide) (eta3 h.2.2)
    obtain ⟨rfl, rfl, _⟩ := h
    exact ⟨h1, Nat.add_le_add_left h7 _, rfl, rfl⟩
  | kk =>
    simp only [readPart, Prod.mk.injEq] at h
    have h1 := sTaken_64 (eta3 h.2.2)
    obtain ⟨_, _, _, _, _, h7, _⟩ := sTaken (by decide) (eta3 h.2.2)
    obtain ⟨rfl, rfl, _⟩ := h
    exact ⟨h1, Nat.add_le_add_left h7 _, rfl, rfl⟩
  | z =>
    simp only [readPart, Prod.mk.injEq] at h
    obtain ⟨rfl, rfl, _⟩ := h
    exact ⟨trivial, by simp [partBytes], rfl, rfl⟩
/-- Parts of other fields stay as they were. -/
theorem part_stays {bs : List Nat} {p q : Nat} {x y : Ins} {r r' : Part} (h : readPart bs p x r' = (y, q, 0)) (hr : fld r ≠ fld r' ∨ r = .z) : (partFits x r → partFits y r) ∧ partBytes y r = partBytes x r ∧ ∀ z, setPart y z r = setPart x z r := by
  obtain ⟨_, _, hs, _⟩ := partTaken h
  clear h
  have e1 := congrArg Ins.a hs
  have e2 := congrArg Ins.b hs
  have e3 := congrArg Ins.k hs
  have e4 := congrArg Ins.l hs
  clear hs
  cases r <;> cases r' <;> simp_all [fld, setPart, partFits, partBytes]
theorem parts_stay {bs : List Nat} {rs : List Part} {p q : Nat} {x y : Ins} {r : Part} (h : readParts bs rs p x = (y, q, 0)) (hr : ∀ r' ∈ rs, fld r ≠ fld r' ∨ r = .z) : (partFits x r → partFits y r) ∧ partBytes y r = partBytes x r ∧ ∀ z, setPart y z r = setPart x z r := by
  induction rs generalizing p x with
  | nil =>
    simp only [readParts, Prod.mk.injEq] at h
    obtain ⟨rfl, _⟩ := h
    exact ⟨id, rfl, fun _ => rfl⟩
  | cons r1 rs ih =>
    obtain ⟨z, m, h1, h2⟩ := readParts_is h
    obtain ⟨a1, a2, a3⟩ := part_stays (r := r) h1 (hr r1 (by simp))
    obtain ⟨b1, b2, b3⟩ := ih h2 (fun r' h' => hr r' (by simp [h']))
    exact ⟨fun h => b1 (a1 h), b2.trans a2, fun u => (b3 u).trans (a3 u)⟩
theorem partsTaken {bs : List Nat} {rs : List Part} {p q : Nat} {x y : Ins} (h : readParts bs rs p x = (y, q, 0)) (hp : rs.Pairwise fun r r' => fld r ≠ fld r' ∨ r = .z) : (∀ r ∈ rs, partFits y r) ∧ p + (rs.flatMap (partBytes y)).length ≤ q ∧ setParts y rs x = y ∧ y.op = x.op := by
  induction rs generalizing p x with
  | nil =>
    simp only [readParts, Prod.mk.injEq] at h
    obtain ⟨rfl, rfl, _⟩ := h
    simp [setParts]
  | cons r rs ih =>
    obtain ⟨z, m, h1, h2⟩ := readParts_is h
    obtain ⟨hp1, hp2⟩ := List.pairwise_cons.1 hp
    obtain ⟨a1, a2, a3, a4⟩ := partTaken h1
    obtain ⟨b1, b2, b3, b4⟩ := ih h2 hp2
    obtain ⟨c1, c2, c3⟩ := parts_stay h2 hp1
    refine ⟨?_, ?_, ?_, b4.trans a4⟩
    · intro r' hr'
      rcases List.mem_cons.1 hr' with rfl | hr'
      · exact c1 a1
      · exact b1 r' hr'
    · rw [List.flatMap_cons, List.length_append, c2]; omega
    · show setParts y rs (setPart y x r) = y
      rw [c3 x, a3]
      exact b3
theorem named_apart (op : Int) (qs : List Part) (h : named op = some qs) : qs.Pairwise fun r r' => fld r ≠ fld r' ∨ r = .z := by
  unfold named at h
  repeat' split at h
  all_goals first
    | (simp only [Option.some.injEq] at h; subst h; simp [fld])
    | (exfalso; simp at h)
theorem pat_apart (op : Int) (qs : List Part) (h : pat op = some (some qs)) : qs.Pairwise fun r r' => fld r ≠ fld r' ∨ r = .z := by
  unfold pat at h
  cases hn : named op with
  | some p =>
    rw [hn] at h
    simp only [Option.some.injEq] at h
    subst h
    exact named_apart op p hn
  | none =>
    rw [hn] at h
    simp only at h
    by_cases h1 : wideOp op = true
    · rw [if_pos h1] at h; simp at h
    · rw [if_neg h1] at h
      by_cases h2 : accOp op = true
      · rw [if_pos h2] at h
        simp only [Option.some.injEq] at h
        subst h
        simp [fld]
      · rw [if_neg h2] at h
        by_cases h3 : numOp op = true
        · rw [if_pos h3] at h
          simp only [Option.some.injEq] at h
          subst h
          simp
        · rw [if_neg h3] at h; simp at h
theorem restTaken {bs : List Nat} {op : Int} {p q : Nat} {x : Ins} (h : readRest bs op p = (x, q, 0)) : x.op = op ∧ formedI x ∧ p + ((insBytes x).length - (headBytes op).length) ≤ q ∧ 0 ≤ op ∧ op ≤ 270 ∧ op ≠ 252 := by
  obtain ⟨qs, h1, h2⟩ := readRest_is h
  obtain ⟨a1, a2, a3, a4⟩ := partsTaken h2 (pat_apart op qs h1)
  have ho : x.op = op := a4
  have hr := pat_range op qs h1
  refine ⟨ho, ⟨qs, by rw [ho]; exact h1, a1, by rw [ho]; exact a3⟩, ?_, hr⟩
  have hi : insBytes x = headBytes op ++ qs.flatMap (partBytes x) := by unfold insBytes; rw [ho, h1]; rfl
  rw [hi, List.length_append]
  omega
theorem insBytes_head (x : Ins) : (headBytes x.op).length ≤ (insBytes x).length := by
  unfold insBytes
  rw [List.length_append]
  omega
theorem oneTaken {bs : List Nat} {p q : Nat} {x : Ins} (hby : ∀ y ∈ bs, y < 256) (h : oneRes bs p = (x, q, 0)) : formedI x ∧ p + (insBytes x).length ≤ q := by
  obtain ⟨hp, ⟨h1, n, s, h2, h3, h4⟩ | ⟨h1, h4⟩⟩ := oneRes_is h
  · obtain ⟨a1, a2, a3, a4, a5, a6⟩ := restTaken h4
    have hu := (uTaken h2).1
    have hh : (headBytes (256 + (n : Int))).length = 1 + (putU n).length := by
      unfold headBytes
      rw [if_pos (by omega), show (256 + (n : Int) - 256).toNat = n from by omega]
      simp
      omega
    have hb := insBytes_head x
    rw [a1] at hb
    exact ⟨a2, by omega⟩
  · obtain ⟨a1, a2, a3, a4, a5, a6⟩ := restTaken h4
    have hb := insBytes_head x
    rw [a1] at hb
    refine ⟨a2, ?_⟩
    have hlt : bs.getD p 0 < 256 := by
      have e : bs.getD p 0 = bs[p] := by simp [List.getD, List.getElem?_eq_getElem hp]
      rw [e]
      exact hby _ (List.getElem_mem hp)
    have hc : ¬ 256 ≤ (bs.getD p 0 : Int) := by omega
    have hh : (headBytes (bs.getD p 0 : Int)).length = 1 := by
      unfold headBytes
      rw [if_neg hc]
      rfl
    omega
theorem bodyTaken {bs : List Nat} {f n p q : Nat} {st : List Nat} {l : List Ins} (hby : ∀ y ∈ bs, y < 256) (h : bodyF bs f n st p = (l, q, 0)) (hn : n ≤ 2000) : closedF n st l ∧ p + (allBytes l).length ≤ q := by
  induction f generalizing n p st l with
  | zero => simp [bodyF] at h
  | succ f ih =>
    obtain ⟨x, m, h1, h2, h3⟩ := bodyF_is h
    obtain ⟨a1, a2⟩ := oneTaken hby h1
    rcases h3 with ⟨hb, rfl, rfl⟩ | ⟨e, st', xs, hb, h4, rfl⟩
    · refine ⟨?_, by simp [allBytes]; omega⟩
      simp only [closedF]
      rw [hb]
      exact ⟨a1, by omega, rfl, trivial⟩
    · obtain ⟨b1, b2⟩ := ih h4 (by omega)
      refine ⟨?_, ?_⟩
      · simp only [closedF]
        rw [hb]
        exact ⟨a1, by omega, b1⟩
      · simp only [allBytes, List.flatMap_cons, List.length_append] at b2 ⊢
        omega
theorem bodyRes_taken {bs : List Nat} {l : List Ins} {q : Nat} (hby : ∀ y ∈ bs, y < 256) (h : bodyRes bs = (l, q, 0)) : closedI l ∧ (allBytes l).length ≤ q ∧ l.length ≤ q := by
  obtain ⟨h1, h2⟩ := bodyTaken hby h (by omega)
  have := allBytes_len l
  exact ⟨h1, by omega, by omega⟩
/-- What may be put is just what is read out of its own bytes. -/
theorem formed_iff (x : Ins) (hby : ∀ y ∈ insBytes x, y < 256) : formedI x ↔ ∃ q, oneRes (insBytes x) 0 = (x, q, 0) := by
  constructor
  · intro h
    have := one_put [] [] x h
    simp at this
    exact ⟨_, this⟩
  · rintro ⟨q, h⟩
    exact (oneTaken hby h).1
end Go.Proofs.Ytdipgokbfjbgfaa.Ins
