/-
  ModBase: Readers in plain words: a value's type, limits, a function's type, a body, a name: each as the layers below read it; what may be put is read, what is read may be put, in no more bytes. No condition; nothing of the program.
-/
import Derived.Test.YtlbbnnljclndkaaQModGen
import Derived.Test.YtlbbnnljclndkaaQIns
import Derived.Test.YtlbbnnljclndkaaQTyp
import Derived.Test.YtlbbnnljclndkaaQUtf
namespace Go.Proofs.Ytlbbnnljclndkaa.Mod
open Go.RowKit Leb

/-- A value's type. -/
def valueP : Par Nat := bnd one fun c => if (Typ.valOf c).2 = 0 then pur (Typ.valOf c).1 else err (Typ.valOf c).2
theorem valOf_ok {c : Nat} (h : (Typ.valOf c).2 = 0) : (c = 127 ∨ c = 126) ∧ (Typ.valOf c).1 = c := by
  unfold Typ.valOf at h ⊢
  by_cases h1 : c = 127 ∨ c = 126
  · rw [if_pos h1]; exact ⟨h1, rfl⟩
  · rw [if_neg h1] at h
    split at h <;> simp at h
theorem valOf_of {c : Nat} (h : c = 127 ∨ c = 126) : Typ.valOf c = (c, 0) := by unfold Typ.valOf; rw [if_pos h]
theorem pre_value : Pre valueP := pre_bnd pre_one fun _ => pre_ite (pre_pur _) (pre_err _)
theorem reads_value : Reads valueP (fun t => [t]) (fun t => t = 127 ∨ t = 126) := by
  refine ⟨fun t more h => ?_, fun l t s hl h => ?_, fun t h y hy => by simp at hy; omega⟩
  · have h1 : one ([t] ++ more) = .ok (t, 1) := rfl
    exact bnd_mk (f := fun c => if (Typ.valOf c).2 = 0 then pur (Typ.valOf c).1 else err (Typ.valOf c).2) (b := t) (s' := 0) h1 (by rw [valOf_of h]; rfl)
  · obtain ⟨c, s1, s2, h1, h2, rfl⟩ := bnd_ok h
    have hs : s1 = 1 := by
      cases l with
      | nil => simp [one] at h1
      | cons x l => simp only [one, Except.ok.injEq, Prod.mk.injEq] at h1; omega
    by_cases h0 : (Typ.valOf c).2 = 0
    · simp only [if_pos h0, pur, Except.ok.injEq, Prod.mk.injEq] at h2
      obtain ⟨k1, k2⟩ := valOf_ok h0
      obtain ⟨rfl, rfl⟩ := h2
      exact ⟨by rw [k2]; exact k1, by simp; omega⟩
    · simp [if_neg h0, err] at h2
/-- Limits. -/
def limP : Par (Nat × Bool × Nat) := bnd one fun c => if c ≠ 0 ∧ c ≠ 1 then err 2 else bnd num fun a => if c = 0 then pur (a, false, 0) else bnd num fun b => pur (a, true, b)
theorem limP_is (l : List Nat) : limP l = if (Typ.limRes l).2.2.2.2 = 0 then .ok (((Typ.limRes l).1, (Typ.limRes l).2.1, (Typ.limRes l).2.2.1), (Typ.limRes l).2.2.2.1) else .error (Typ.limRes l).2.2.2.2 := by
  cases l with
  | nil => rfl
  | cons c l =>
    have hc : (c :: l).getD 0 0 = c := rfl
    have h1 : one (c :: l) = .ok (c, 1) := rfl
    have hl1 : Typ.lim1 (c :: l) = uRes l 32 := rfl
    have hl2 : Typ.lim2 (c :: l) = uRes (l.drop (uRes l 32).2.1) 32 := by
      unfold Typ.lim2
      rw [hl1, show 1 + (uRes l 32).2.1 = (uRes l 32).2.1 + 1 from by omega, List.drop_succ_cons]
    by_cases hb : c ≠ 0 ∧ c ≠ 1
    · have hR : Typ.limRes (c :: l) = (0, false, 0, 0, 2) := by
        unfold Typ.limRes
        rw [hc, if_neg (by simp), if_pos hb]
      have : limP (c :: l) = .error 2 := bnd_err2 h1 (by simp only [if_pos hb, err])
      rw [this, hR]; rfl
    · obtain ⟨u, s, e, hu⟩ : ∃ u s e, uRes l 32 = (u, s, e) := ⟨_, _, _, rfl⟩
      rw [hu] at hl1 hl2
      by_cases he : e = 0
      · subst he
        have hn := num_mk hu
        by_cases h0 : c = 0
        · subst h0
          have hR : Typ.limRes (0 :: l) = (u, false, 0, 1 + s, 0) := by
            unfold Typ.limRes
            rw [hc, hl1, if_neg (by simp), if_neg hb, if_neg (by simp), if_pos rfl]
          have : limP (0 :: l) = .ok ((u, false, 0), 1 + (s + 0)) := bnd_mk h1 (by
            simp only [if_neg hb, List.drop_succ_cons, List.drop_zero]
            exact bnd_mk hn rfl)
          rw [this, hR]; rfl
        · obtain ⟨v, s2, e2, hv⟩ : ∃ v s2 e2, uRes (l.drop s) 32 = (v, s2, e2) := ⟨_, _, _, rfl⟩
          simp only at hl2
          rw [hv] at hl2
          by_cases he2 : e2 = 0
          · subst he2
            have hR : Typ.limRes (c :: l) = (u, true, v, 1 + s + s2, 0) := by
              unfold Typ.limRes
              rw [hc, hl1, hl2, if_neg (by simp), if_neg hb, if_neg (by simp), if_neg h0, if_neg (by simp)]
            have : limP (c :: l) = .ok ((u, true, v), 1 + (s + (s2 + 0))) := bnd_mk h1 (by
              simp only [if_neg hb, List.drop_succ_cons, List.drop_zero]
              exact bnd_mk hn (by simp only [if_neg h0]; exact bnd_mk (num_mk hv) rfl))
            rw [this, hR]
            simp [Nat.add_assoc]
          · have hR : Typ.limRes (c :: l) = (0, false, 0, 0, e2) := by
              unfold Typ.limRes
              rw [hc, hl1, hl2, if_neg (by simp), if_neg hb, if_neg (by simp), if_neg h0, if_pos he2]
            have : limP (c :: l) = .error e2 := bnd_err2 h1 (by
              simp only [if_neg hb, List.drop_succ_cons, List.drop_zero]
              exact bnd_err2 hn (by simp only [if_neg h0]; exact bnd_err (num_bad hv he2)))
            rw [this, hR]
            simp [he2]
      · have hR : Typ.limRes (c :: l) = (0, false, 0, 0, e) := by
          unfold Typ.limRes
          rw [hc, hl1, if_neg (by simp), if_neg hb, if_pos he]
        have : limP (c :: l) = .error e := bnd_err2 h1 (by
          simp only [if_neg hb, List.drop_succ_cons, List.drop_zero]
          exact bnd_err (num_bad hu he))
        rw [this, hR]
        simp [he]
theorem pre_lim : Pre limP := pre_bnd pre_one fun _ => pre_ite (pre_err _) (pre_bnd pre_num fun _ => pre_ite (pre_pur _) (pre_bnd pre_num fun _ => pre_pur _))
theorem reads_lim : Reads limP (fun x => Typ.limBytes x.1 x.2.1 x.2.2) (fun x => x.1 < 4294967296 ∧ x.2.2 < 4294967296 ∧ (x.2.1 = true ∨ x.2.2 = 0)) := by
  refine ⟨fun x more h => ?_, fun l x s hl h => ?_, fun x h y hy => ?_⟩
  · obtain ⟨a, cap, b⟩ := x
    rw [limP_is, Typ.limRes_put a b cap more h.1 h.2.1 h.2.2]
    rfl
  · obtain ⟨c, s1, s2, h1, h2, rfl⟩ := bnd_ok h
    have hs : s1 = 1 := by
      cases l with
      | nil => simp [one] at h1
      | cons z l => simp only [one, Except.ok.injEq, Prod.mk.injEq] at h1; omega
    by_cases hb : c ≠ 0 ∧ c ≠ 1
    · simp [if_pos hb, err] at h2
    · simp only [if_neg hb] at h2
      obtain ⟨a, s3, s4, h3, h4, rfl⟩ := bnd_ok h2
      obtain ⟨k1, k2⟩ := uRes_small (num_ok h3)
      by_cases h0 : c = 0
      · simp only [if_pos h0, pur, Except.ok.injEq, Prod.mk.injEq] at h4
        obtain ⟨rfl, rfl⟩ := h4
        exact ⟨⟨k2, by simp, .inr rfl⟩, by simp [Typ.limBytes]; omega⟩
      · simp only [if_neg h0] at h4
        obtain ⟨b, s5, s6, h5, h6, rfl⟩ := bnd_ok h4
        obtain ⟨k3, k4⟩ := uRes_small (num_ok h5)
        simp only [pur, Except.ok.injEq, Prod.mk.injEq] at h6
        obtain ⟨rfl, rfl⟩ := h6
        exact ⟨⟨k2, k4, .inl rfl⟩, by simp [Typ.limBytes]; omega⟩
  · unfold Typ.limBytes at hy
    split at hy
    · rcases List.mem_cons.1 hy with rfl | hy
      · omega
      · rcases List.mem_append.1 hy with hy | hy
        · exact putUf_byte 9 _ y hy
        · exact putUf_byte 9 _ y hy
    · rcases List.mem_cons.1 hy with rfl | hy
      · omega
      · exact putUf_byte 9 _ y hy
/-- A function's type. -/
def funcP : Par (List Int × List Int) := fun l => if (Typ.funcRes l).2.2.2 = 0 then .ok (((Typ.funcRes l).1, (Typ.funcRes l).2.1), (Typ.funcRes l).2.2.1) else .error (Typ.funcRes l).2.2.2
theorem funcP_ok {l : List Nat} {x : List Int × List Int} {s : Nat} (h : funcP l = .ok (x, s)) : Typ.funcRes l = (x.1, x.2, s, 0) := by
  unfold funcP at h
  by_cases h0 : (Typ.funcRes l).2.2.2 = 0
  · rw [if_pos h0] at h
    simp only [Except.ok.injEq, Prod.mk.injEq] at h
    rw [← h.1, ← h.2, ← h0]
  · rw [if_neg h0] at h; simp at h
theorem funcP_mk {l : List Nat} {ps rs : List Int} {s : Nat} (h : Typ.funcRes l = (ps, rs, s, 0)) : funcP l = .ok ((ps, rs), s) := by unfold funcP; rw [h]; rfl
theorem pre_func : Pre funcP := by
  refine ⟨fun l x s h => ?_, fun l l' x s h ht => ?_⟩
  · obtain ⟨_, _, q, _, _, _, _, h6⟩ := Typ.funcRes_is (funcP_ok h); exact h6
  · have h1 := funcP_ok h
    obtain ⟨g1, _, q, _, _, g4, g5, g6⟩ := Typ.funcRes_is h1
    have hl : s ≤ l'.length := by
      have := congrArg List.length ht
      rw [List.length_take, List.length_take] at this
      omega
    exact funcP_mk (Typ.funcRes_pre h1 ht (by omega))
theorem takeVals_good {u : Nat} {l : List Nat} {xs : List Int} (h : Typ.takeVals u l = (xs, 0)) : xs.length = u ∧ ∀ x ∈ xs, x = 127 ∨ x = 126 := by
  obtain ⟨h1, h2, h3⟩ := Typ.takeVals_ok u l (by rw [h])
  rw [h] at h2
  simp only at h2
  subst h2
  refine ⟨by simp; omega, fun x hx => ?_⟩
  obtain ⟨y, hy, rfl⟩ := List.mem_map.1 hx
  have := h3 y hy
  omega
theorem reads_func : Reads funcP (fun x => Typ.funcBytes x.1 x.2) (fun x => Typ.rightF x.1 x.2 = true) := by
  refine ⟨fun x more h => ?_, fun l x s hl h => ?_, fun x h y hy => ?_⟩
  · exact funcP_mk (Typ.funcRes_put x.1 x.2 more h)
  · obtain ⟨_, _, q, h2, h3, h4, h5, h6⟩ := Typ.funcRes_is (funcP_ok h)
    obtain ⟨u, s1, a1, a2, a3, a4⟩ := Typ.valsRes_is h2
    obtain ⟨v, s2, b1, b2, b3, b4⟩ := Typ.valsRes_is h3
    have i1 := (Sec.uRes_in a1).1
    have i2 := (Sec.uRes_in b1).1
    obtain ⟨c1, c2⟩ := takeVals_good a3
    obtain ⟨d1, d2⟩ := takeVals_good b3
    refine ⟨decide_eq_true ⟨⟨by omega, c2⟩, by omega, d2⟩, ?_⟩
    simp only [Typ.funcBytes, Typ.natsOf, List.length_cons, List.length_append, List.length_map]
    omega
  · obtain ⟨⟨g1, g2⟩, g3, g4⟩ := of_decide_eq_true h
    simp only [Typ.funcBytes, Typ.natsOf, List.mem_cons, List.mem_append, List.mem_map] at hy
    rcases hy with rfl | (rfl | ⟨z, hz, rfl⟩) | (rfl | ⟨z, hz, rfl⟩)
    · omega
    · omega
    · have := g2 z hz; omega
    · omega
    · have := g4 z hz; omega
/-- A body. -/
def bodyP : Par (List Ins.Ins) := fun l => if (Ins.bodyRes l).2.2 = 0 then .ok ((Ins.bodyRes l).1, (Ins.bodyRes l).2.1) else .error (Ins.bodyRes l).2.2
theorem bodyP_ok {l : List Nat} {x : List Ins.Ins} {s : Nat} (h : bodyP l = .ok (x, s)) : Ins.bodyRes l = (x, s, 0) := by
  unfold bodyP at h
  by_cases h0 : (Ins.bodyRes l).2.2 = 0
  · rw [if_pos h0] at h
    simp only [Except.ok.injEq, Prod.mk.injEq] at h
    rw [← h.1, ← h.2, ← h0]
  · rw [if_neg h0] at h; simp at h
theorem bodyP_mk {l : List Nat} {x : List Ins.Ins} {s : Nat} (h : Ins.bodyRes l = (x, s, 0)) : bodyP l = .ok (x, s) := by unfold bodyP; rw [h]; rfl
theorem bodyF_le {bs : List Nat} {f n p q : Nat} {st : List Nat} {l : List Ins.Ins} (h : Ins.bodyF bs f n st p = (l, q, 0)) : p ≤ q ∧ q ≤ bs.length := by
  induction f generalizing n p st l with
  | zero => simp [Ins.bodyF] at h
  | succ f ih =>
    obtain ⟨x, m, h1, h2, h3⟩ := Ins.bodyF_is h
    have hm := Ins.oneRes_le h1
    rcases h3 with ⟨_, _, rfl⟩ | ⟨e, st', xs, hb, h4, rfl⟩
    · omega
    · have := ih h4; omega
theorem bodyF_pre {bs bs' : List Nat} {f g n p q : Nat} {st : List Nat} {l : List Ins.Ins} (h : Ins.bodyF bs f n st p = (l, q, 0)) (ht : bs.take q = bs'.take q) (hg : q - p < g) (hn : n ≤ 2000) : Ins.bodyF bs' g n st p = (l, q, 0) := by
  induction f generalizing g n p st l with
  | zero => simp [Ins.bodyF] at h
  | succ f ih =>
    obtain ⟨x, m, h1, h2, h3⟩ := Ins.bodyF_is h
    have hm := Ins.oneRes_le h1
    cases g with
    | zero => omega
    | succ g =>
      rcases h3 with ⟨hb, rfl, rfl⟩ | ⟨e, st', xs, hb, h4, rfl⟩
      · have e1 := Ins.one_pre h1 ht
        rw [Ins.bodyF_step _ g n p q st x e1 (by omega), hb]
        rfl
      · have hq := bodyF_le h4
        have e1 := Ins.one_pre h1 (Ins.take_le ht hq.1)
        rw [Ins.bodyF_step _ g n p m st x e1 (by omega), hb]
        simp only
        rw [ih h4 (by omega) (by omega)]
        simp
theorem pre_body : Pre bodyP := by
  refine ⟨fun l x s h => (bodyF_le (bodyP_ok h)).2, fun l l' x s h ht => ?_⟩
  have h1 := bodyP_ok h
  have hle := (bodyF_le h1).2
  have hl : s ≤ l'.length := by
    have := congrArg List.length ht
    rw [List.length_take, List.length_take] at this
    omega
  exact bodyP_mk (bodyF_pre h1 ht (by omega) (by omega))
theorem reads_body : Reads bodyP Ins.allBytes Ins.closedI :=
  ⟨fun x more h => bodyP_mk (Ins.bodyRes_put x more h), fun l x s hl h => by
    obtain ⟨h1, h2, _⟩ := Ins.bodyRes_taken hl (bodyP_ok h)
    exact ⟨h1, h2⟩, fun x h => (Ins.closed_bytes x h).1⟩
/-- A name. -/
def nameP : Par ByteArray := fun l => if (Utf.nameRes l).2.2 = 0 then .ok ((Utf.nameRes l).1, (Utf.nameRes l).2.1) else .error (Utf.nameRes l).2.2
def nameOk (s : ByteArray) : Prop := s.size ≤ 64 ∧ Utf.vld (Utf.bl s) = true
theorem nameP_is (l : List Nat) : nameP l = bnd num (fun n => bnd (takeN n) fun b => if Utf.vld b = false then err 2 else if 64 < n then err 4 else pur (Utf.strOf b)) l := by
  obtain ⟨u, s, e, hu⟩ : ∃ u s e, uRes l 32 = (u, s, e) := ⟨_, _, _, rfl⟩
  unfold nameP
  by_cases he : e = 0
  · subst he
    have hn := num_mk hu
    by_cases h1 : l.length - s < u
    · have hR : Utf.nameRes l = (⟨#[]⟩, 0, 1) := by
        unfold Utf.nameRes
        rw [hu]
        simp only
        rw [if_neg (by simp), if_pos h1]
      rw [hR, bnd_err2 hn (bnd_err (e := 1) (by unfold takeN; rw [if_pos (by rw [List.length_drop]; exact h1)]))]
      rfl
    · have ht : takeN u (l.drop s) = .ok ((l.drop s).take u, u) := by unfold takeN; rw [if_neg (by rw [List.length_drop]; exact h1)]
      by_cases h2 : Utf.vld ((l.drop s).take u) = false
      · have hR : Utf.nameRes l = (⟨#[]⟩, 0, 2) := by
          unfold Utf.nameRes
          rw [hu]
          simp only
          rw [if_neg (by simp), if_neg h1, if_pos h2]
        rw [hR, bnd_err2 hn (bnd_err2 (e := 2) ht (by simp only [if_pos h2, err]))]
        rfl
      · by_cases h3 : 64 < u
        · have hR : Utf.nameRes l = (⟨#[]⟩, 0, 4) := by
            unfold Utf.nameRes
            rw [hu]
            simp only
            rw [if_neg (by simp), if_neg h1, if_neg h2, if_pos h3]
          rw [hR, bnd_err2 hn (bnd_err2 (e := 4) ht (by simp only [if_neg h2, if_pos h3, err]))]
          rfl
        · have hR : Utf.nameRes l = (Utf.strOf ((l.drop s).take u), s + u, 0) := by
            unfold Utf.nameRes
            rw [hu]
            simp only
            rw [if_neg (by simp), if_neg h1, if_neg h2, if_neg h3]
          rw [hR, bnd_mk hn (bnd_mk (b := Utf.strOf ((l.drop s).take u)) (s' := 0) ht (by simp only [if_neg h2, if_neg h3]; rfl))]
          simp
  · have hR : Utf.nameRes l = (⟨#[]⟩, 0, e) := by
      unfold Utf.nameRes
      rw [hu]
      simp only
      rw [if_pos he]
    rw [hR, bnd_err (num_bad hu he)]
    simp [he]
theorem pre_name : Pre nameP := by
  have h : Pre (bnd num fun n => bnd (takeN n) fun b => if Utf.vld b = false then err 2 else if 64 < n then err 4 else pur (Utf.strOf b)) := pre_bnd pre_num fun n => pre_bnd (pre_takeN n) fun b => pre_ite (pre_err _) (pre_ite (pre_err _) (pre_pur _))
  exact ⟨fun l a s hh => h.le l a s (by rw [← nameP_is]; exact hh), fun l l' a s hh ht => by
    have := h.pre l l' a s (by rw [← nameP_is]; exact hh) ht
    rwa [← nameP_is] at this⟩
theorem strOf_bl (s : ByteArray) : Utf.strOf (Utf.bl s) = s := by
  apply ByteArray.ext
  apply Array.ext'
  unfold Utf.strOf
  rw [strOfNums_data]
  unfold Utf.bl
  rw [List.map_map, List.map_map]
  conv => rhs; rw [← List.map_id s.data.toList]
  apply List.map_congr_left
  intro x _
  simp [Function.comp]
theorem bl_lt (s : ByteArray) : ∀ y ∈ Utf.bl s, y < 256 := by
  intro y hy
  unfold Utf.bl at hy
  obtain ⟨u, _, rfl⟩ := List.mem_map.1 hy
  exact u.toNat_lt
theorem reads_name : Reads nameP (fun s => putU s.size ++ Utf.bl s) nameOk := by
  refine ⟨fun s more h => ?_, fun l x n hl h => ?_, fun s h y hy => (List.mem_append.1 hy).elim (putUf_byte 9 s.size y) (bl_lt s y)⟩
  · obtain ⟨h64, hv⟩ := h
    rw [nameP_is, List.append_assoc]
    have h1 := reads_num.back s.size (Utf.bl s ++ more) (by omega)
    have h2 : takeN s.size (Utf.bl s ++ more) = .ok (Utf.bl s, s.size) := by
      have := (reads_takeN s.size).back (Utf.bl s) more ⟨Utf.bl_len s, bl_lt s⟩
      rwa [Utf.bl_len] at this
    rw [bnd_mk h1 (by
      rw [List.drop_left]
      exact bnd_mk (b := s) (s' := 0) h2 (by simp only [hv, if_neg (show ¬ 64 < s.size by omega)]; simp [pur, strOf_bl]))]
    rw [List.length_append, Utf.bl_len]
    rfl
  · rw [nameP_is] at h
    obtain ⟨u, s1, s2, h1, h2, rfl⟩ := bnd_ok h
    obtain ⟨b, s3, s4, h3, h4, rfl⟩ := bnd_ok h2
    obtain ⟨rfl, rfl, hul⟩ := takeN_ok h3
    obtain ⟨k1, k2⟩ := uRes_small (num_ok h1)
    by_cases hv : Utf.vld ((l.drop s1).take s3) = false
    · simp [if_pos hv, err] at h4
    · by_cases h64 : 64 < s3
      · simp [if_neg hv, if_pos h64, err] at h4
      · simp only [if_neg hv, if_neg h64, pur, Except.ok.injEq, Prod.mk.injEq] at h4
        obtain ⟨rfl, rfl⟩ := h4
        have hm : ∀ y ∈ (l.drop s1).take s3, y < 256 := fun y hy => hl y (List.mem_of_mem_drop (List.mem_of_mem_take hy))
        have hsz : (Utf.strOf ((l.drop s1).take s3)).size = s3 := by rw [Utf.strOf_size]; simp; simp at hul; omega
        refine ⟨⟨by omega, by rw [Utf.bl_strOf _ hm]; simpa using hv⟩, ?_⟩
        rw [hsz, List.length_append, Utf.bl_len, hsz]
        omega
end Go.Proofs.Ytlbbnnljclndkaa.Mod
