/-
  sect.Custom, sect.PutCustom, trammelref07.Custom: what each comes to. Conditions: the library's two tables of utf8 hold what they were laid with; slices lead to bytes, at most 2^30.
-/
import Derived.Test.YtelcoeeijkainaaDoorSecAwake
import Derived.Test.YtelcoeeijkainaaDoorUtfBackLaw
import Derived.Test.YtelcoeeijkainaaDoorUtfOwnName
import Derived.Test.YtelcoeeijkainaaDoorUtfOwnPut
namespace Go.Proofs.YtelcoeeijkainaaDoor.Sec
open Go.RowKit Leb Utf

/-- What bytes say, as a custom section. -/
def cusRes (l : List Nat) : ByteArray × List Nat × Nat := ((nameRes l).1, if (nameRes l).2.2 = 0 then l.drop (nameRes l).2.1 else [], (nameRes l).2.2)
/-- A custom section as a value, and an error. -/
def CusIs (w : World) (s : ByteArray) (b : List Nat) (n k : Nat) (e : Ending) (w' : World) : Prop := ∃ A c, e = .returned (.tuple #[.agg #[.string s, .slice A n c], .int .i64 (k : Int)]) ∧ Slc w' w'.heap.size A c b ∧ b.length = n ∧ Below w.heap.size w w'
/-- The same as three values. -/
def RCusIs (w : World) (s : ByteArray) (b : List Nat) (n k : Nat) (e : Ending) (w' : World) : Prop := ∃ A c, e = .returned (.tuple #[.string s, .slice A n c, .int .i64 (k : Int)]) ∧ Slc w' w'.heap.size A c b ∧ b.length = n ∧ Below w.heap.size w w'
theorem slc_nil (w : World) (B : Nat) : Slc w B none 0 [] := ⟨⟨by simp, by simp⟩, fun _ => rfl, Nat.le_refl _⟩
theorem name_err {l : List Nat} (h : (nameRes l).2.2 ≠ 0) : (nameRes l).1 = ⟨#[]⟩ := by
  unfold nameRes at h ⊢
  repeat' split
  all_goals first
    | rfl
    | (simp_all)
theorem name_in {l : List Nat} (h : (nameRes l).2.2 = 0) : (nameRes l).2.1 ≤ l.length := by
  obtain ⟨u, s, e, hu⟩ : ∃ u s e, uRes l 32 = (u, s, e) := ⟨_, _, _, rfl⟩
  unfold nameRes at h ⊢
  rw [hu] at h ⊢
  simp only at h ⊢
  by_cases he : e ≠ 0
  · rw [if_pos he] at h; exact absurd h he
  · have he0 : e = 0 := by omega
    subst he0
    have hi := uRes_in hu
    rw [if_neg he] at h ⊢
    by_cases h1 : l.length - s < u
    · rw [if_pos h1] at h; simp at h
    · rw [if_neg h1] at h ⊢
      by_cases h2 : vld ((l.drop s).take u) = false
      · rw [if_pos h2] at h; simp at h
      · rw [if_neg h2] at h ⊢
        by_cases h3 : 64 < u
        · rw [if_pos h3] at h; simp at h
        · rw [if_neg h3]
          simp only
          omega
/-- The box that a custom section lies in. -/
def BoxC (w : World) (b : Nat) (s v : Value) : Prop := b < w.heap.size ∧ w.cell? ⟨b, 0, none⟩ = some s ∧ w.cell? ⟨b, 1, none⟩ = some v ∧ w.frozen? ⟨b, 0, none⟩ = false ∧ w.frozen? ⟨b, 1, none⟩ = false
theorem BoxC.keep {w w' : World} {b : Nat} {s v : Value} (h : BoxC w b s v) (hb : Below w.heap.size w w') : BoxC w' b s v := by
  obtain ⟨h0, h1, h2, h3, h4⟩ := h
  have hh := hb.block b h0
  have C : ∀ i, w'.cell? ⟨b, i, none⟩ = w.cell? ⟨b, i, none⟩ := fun i => World.cell?_of_block hh
  have F : ∀ i, w'.frozen? ⟨b, i, none⟩ = w.frozen? ⟨b, i, none⟩ := fun i => World.frozen?_of_block hh
  exact ⟨Nat.lt_of_lt_of_le h0 hb.size, (C _).trans h1, (C _).trans h2, (F _).trans h3, (F _).trans h4⟩
theorem BoxC.new (w : World) (t : TypeId) (s v : Value) : BoxC (w.alloc (.cells #[s, v] t)) w.heap.size s v := ⟨by simp, by simp, by simp, by simp, by simp⟩
set_option maxHeartbeats 1000000 in
set_option maxRecDepth 100000 in
theorem custom_any (A : Option Addr) (l : List Nat) (c : Nat) (w : World) (hT : Tabs w) (hs : Slc w w.heap.size A c l) (hl : l.length ≤ 1000000000) : Calls Tryd.prog 5 #[.slice A l.length c] w fun e w' => CusIs w (cusRes l).1 (cusRes l).2.1 (cusRes l).2.1.length (cusRes l).2.2 e w' := by
  have hA : Below w.heap.size w (w.alloc (.cells #[.string ⟨#[]⟩, .slice none 0 0] 24)) := (Below.refl _ _).alloc (Nat.le_refl _) _
  have hN := uname_any A l c _ (hT.below hA) ((hs.bytes.below hA).more hA.size) hs.room (by omega)
  have HBX := Lib.hid (BoxC.new w 24 (.string ⟨#[]⟩) (.slice none 0 0))
  have HA := Lib.hid hA
  have HS := Lib.hid hs
  have HL := Lib.hid hl
  unfold TellsN at hN
  unfold cusRes
  have herr := name_err (l := l)
  have hin := name_in (l := l)
  obtain ⟨s, n, k, hr⟩ : ∃ s n k, nameRes l = (s, n, k) := ⟨_, _, _, rfl⟩
  rw [hr] at hN herr hin ⊢
  have HN := Lib.hid hN
  clear hN hr hA hT
  by_cases hk : k = 0
  · subst hk
    have hnl : n ≤ l.length := hin rfl
    obtain ⟨A2, c2, HSL, hB⟩ := slice_at A l c n w.heap.size w hs hnl
    have HC : Hid (∀ W, Below w.heap.size w W → Calls Tryd.prog 13 #[.slice A2 (l.length - n) c2] W (GivesB W (l.drop n) (l.length - n))) := Lib.hid fun W hW => by
      have h2 := hB W (hs.below hW)
      have h3 := gives_b (clone_any A2 (l.drop n) c2 W (h2.bytes.more hW.size) h2.nil (by simp; omega)) h2.bytes.1 (List.length_drop ..)
      rwa [List.length_drop] at h3
    have HDL : Hid ((l.drop n).length = l.length - n) := Lib.hid (List.length_drop ..)
    simp only [if_true]
    generalize l.drop n = bs at *
    rw [HDL.out]
    clear hs hin herr hB hl
    go_enter Tryd.func5, Tryd.ntmps5
    go_wp2_with fail
    refine HN.out.mono ?_
    rintro e w1 ⟨rfl, hb1⟩
    have HBX1 := Lib.hid (HBX.out.keep hb1)
    have HB1 := Lib.hid (HA.out.trans (hb1.mono HA.out.size))
    clear hb1 HN HBX HA
    go_wp2_with fail
    refine (HC.out _ HB1.out).mono ?_
    rintro e w2 ⟨A3, c3, rfl, hown, hby, hn2, hr2, hb2⟩
    have hbx := HBX1.out.keep hb2
    have HB2 := Lib.hid (HB1.out.trans (hb2.mono HB1.out.size))
    have HO := Lib.hid (And.intro hown (And.intro hn2 (And.intro hr2 (And.intro hby.1 HBX1.out.1))))
    clear hown hby hn2 hr2 hb2 HC HSL HBX1 HB1
    obtain ⟨b0, b1, b2, b3, b4⟩ := hbx
    go_wp2
    refine bodyPost_ret (v := .tuple #[.agg #[.string s, .slice A3 (l.length - n) c3], .int .i64 0]) (by simp [results, Tryd.results5, go_sem, b1, b2]) rfl ?_
    obtain ⟨f1, f2, f3, f4, f5⟩ := HO.out
    have hown2 := own_set (i := 1) (u := .slice A3 (l.length - n) c3) (own_set (i := 0) (u := .string s) f1 f5) f5
    obtain ⟨A6, c6, he6, hb6, _, _⟩ := hown2.bytes f4
    injection he6 with e7 e8 e9
    subst e7
    exact ⟨A3, c3, rfl, ⟨hb6, f2, by rw [HDL.out]; exact f3⟩, HDL.out, ((HB2.out.setCell (Nat.le_refl _) _).setCell (Nat.le_refl _) _)⟩
  · have hs0 : s = ⟨#[]⟩ := herr hk
    subst hs0
    have hne : ((k : Int) != 0) = true := by simp; omega
    simp only [hk, if_false, List.length_nil]
    clear hs hin herr hl
    go_enter Tryd.func5, Tryd.ntmps5
    go_wp2_with fail
    refine HN.out.mono ?_
    rintro e w1 ⟨rfl, hb1⟩
    have hbx := HBX.out.keep hb1
    have HB1 := Lib.hid (HA.out.trans (hb1.mono HA.out.size))
    clear hb1 HN HBX HA
    obtain ⟨b0, b1, b2, b3, b4⟩ := hbx
    go_wp2
    refine bodyPost_ret (v := .tuple #[.agg #[.string ⟨#[]⟩, .slice none 0 0], .int .i64 (k : Int)]) (by simp [results, Tryd.results5, go_sem, b1, b2]) rfl ?_
    exact ⟨none, 0, rfl, slc_nil _ _, rfl, ((HB1.out.setCell (Nat.le_refl _) _).setCell (Nat.le_refl _) _)⟩
set_option maxHeartbeats 1000000 in
set_option maxRecDepth 100000 in
theorem rcustom_any (A : Option Addr) (l : List Nat) (c : Nat) (w : World) (hs : Slc w w.heap.size A c l) (hl : l.length ≤ 1000000000) : Calls Tryd.prog 6 #[.slice A l.length c] w fun e w' => RCusIs w (cusRes l).1 (cusRes l).2.1 (cusRes l).2.1.length (cusRes l).2.2 e w' := by
  have hN := rname_any A l c w hs.bytes hs.room (by omega)
  have HS := Lib.hid hs
  unfold TellsN at hN
  unfold cusRes
  have herr := name_err (l := l)
  have hin := name_in (l := l)
  obtain ⟨s, n, k, hr⟩ : ∃ s n k, nameRes l = (s, n, k) := ⟨_, _, _, rfl⟩
  rw [hr] at hN herr hin ⊢
  have HN := Lib.hid hN
  clear hN hr
  by_cases hk : k = 0
  · subst hk
    have hnl : n ≤ l.length := hin rfl
    obtain ⟨A2, c2, HSL, hB⟩ := slice_at A l c n w.heap.size w hs hnl
    have HF : Hid (∀ W, Below w.heap.size w W → RCusIs w s (l.drop n) (l.length - n) 0 (.returned (.tuple #[.string s, .slice A2 (l.length - n) c2, .int .i64 0])) W) := Lib.hid fun W hW => ⟨A2, c2, rfl, (hB W (hs.below hW)).more hW.size, List.length_drop .., hW⟩
    simp only [if_true]
    rw [List.length_drop]
    clear hs hin herr hB hl
    go_enter Tryd.func6, Tryd.ntmps6
    go_wp2_with fail
    refine HN.out.mono ?_
    rintro e w1 ⟨rfl, hb1⟩
    have HB1 := Lib.hid hb1
    clear hb1 HN
    go_wp2_with fail
    go_quiet (fail)
    go_wp2
    go_ret3
    exact HF.out _ (below_drewN HB1.out _)
  · have hs0 : s = ⟨#[]⟩ := herr hk
    subst hs0
    have hne : ((k : Int) != 0) = true := by simp; omega
    simp only [hk, if_false, List.length_nil]
    clear hs hin herr hl
    go_enter Tryd.func6, Tryd.ntmps6
    go_wp2_with fail
    refine HN.out.mono ?_
    rintro e w1 ⟨rfl, hb1⟩
    have HB1 := Lib.hid hb1
    clear hb1 HN
    go_wp2
    go_ret3
    exact ⟨none, 0, rfl, slc_nil _ _, rfl, HB1.out⟩
/-- What is put. -/
def PutCIs (w : World) (b : List Nat) (n k : Nat) (e : Ending) (w' : World) : Prop := ∃ A c, e = .returned (.tuple #[.slice A n c, .int .i64 (k : Int)]) ∧ Slc w' w'.heap.size A c b ∧ b.length = n ∧ Below w.heap.size w w'
set_option maxHeartbeats 1000000 in
set_option maxRecDepth 100000 in
theorem putc_not (s : ByteArray) (A : Option Addr) (n c k : Nat) (w : World) (hT : Tabs w) (hs : s.size ≤ 9223372036854775807) (hf : faultOf (bl s) = k) (hk : k ≠ 0) : Calls Tryd.prog 8 #[.agg #[.string s, .slice A n c]] w (PutCIs w [] 0 k) := by
  have hA : Below w.heap.size w (w.alloc (.cells #[.string s, .slice A n c] 24)) := (Below.refl _ _).alloc (Nat.le_refl _) _
  have HP := Lib.hid (uput_not none 0 0 k s _ (hT.below hA) hs hf hk)
  have HA := Lib.hid hA
  have hne : ((k : Int) != 0) = true := by simp; omega
  clear hT hf hA hs hk
  go_enter Tryd.func8, Tryd.ntmps8
  go_wp2_with fail
  refine HP.out.mono ?_
  rintro e w1 ⟨rfl, hb1⟩
  have HB1 := Lib.hid (HA.out.trans (hb1.mono HA.out.size))
  clear hb1 HP HA
  go_wp2
  go_ret2
  exact ⟨none, 0, rfl, slc_nil _ _, rfl, HB1.out⟩
set_option maxHeartbeats 1000000 in
set_option maxRecDepth 100000 in
theorem putc_ok (s : ByteArray) (A : Option Addr) (l : List Nat) (n c m : Nat) (w : World) (hT : Tabs w) (hs : s.size ≤ 9223372036854775807) (hf : faultOf (bl s) = 0) (hb : Slc w w.heap.size A c l) (hl : l.length = n) (hn : n ≤ 1000000000) (hm : (putU s.size ++ bl s ++ l).length = m) : Calls Tryd.prog 8 #[.agg #[.string s, .slice A n c]] w (PutCIs w (putU s.size ++ bl s ++ l) m 0) := by
  have hA : Below w.heap.size w (w.alloc (.cells #[.string s, .slice A n c] 24)) := (Below.refl _ _).alloc (Nat.le_refl _) _
  obtain ⟨k, hk⟩ : ∃ k, (putU s.size ++ bl s).length = k := ⟨_, rfl⟩
  have h64 := (fault_size s hf).1
  have hkb : k ≤ 100 := by
    have hp := (putUf_len 9 s.size).2
    have e : (putU s.size ++ bl s).length = (putU s.size).length + s.size := by rw [List.length_append, bl_len]
    have : (putU s.size).length ≤ 10 := hp
    omega
  have hP := uput_any none [] 0 k s _ (hT.below hA) ⟨by simp, by simp⟩ (fun _ => rfl) (by simp) hs hf (by simpa using hk)
  simp only [List.length_nil, List.nil_append] at hP
  have HP := Lib.hid hP
  have HBX := Lib.hid (BoxC.new w 24 (.string s) (.slice A n c))
  have HA := Lib.hid hA
  have HM : Hid ((putU s.size ++ bl s ++ l).length = m ∧ m ≤ 140737488355328) := Lib.hid ⟨hm, by rw [List.length_append, hk, hl] at hm; omega⟩
  have HMEM : Hid (∀ y ∈ putU s.size ++ bl s, y < 256) := Lib.hid fun y hy => (List.mem_append.1 hy).elim (putUf_byte 9 s.size y) fun h => by
    unfold bl at h
    obtain ⟨u, _, rfl⟩ := List.mem_map.1 h
    exact u.toNat_lt
  have HB := Lib.hid hb
  have HL := Lib.hid hl
  clear hT hf hA hs hP hb hl hm hk h64 hkb
  generalize putU s.size ++ bl s = pre at *
  go_enter Tryd.func8, Tryd.ntmps8
  go_wp2_with fail
  refine HP.out.mono ?_
  rintro e w1 ⟨A1, c1, rfl, hown1, hby1, hn1, hc1, hb1⟩
  have HB1 := Lib.hid (HA.out.trans (hb1.mono HA.out.size))
  obtain ⟨b0, b1, b2, b3, b4⟩ := HBX.out.keep hb1
  have HO1 := Lib.hid (own_from hown1 HA.out.size)
  have HSB := Lib.hid (HB.out.bytes.below HB1.out)
  have hbase := HB1.out.size
  clear hown1 hby1 hn1 hc1 hb1 HP HBX HA
  go_wp2_with (at_builtin; refine app_slice rfl (.tmp 15) (.tmp 17) rfl w.heap.size _ pre rfl HO1.out HMEM.out A l n c w.heap.size m HL.out rfl HSB.out HB.out.nil HM.out.1 HM.out.2 hbase ?_; intro A5 c5 w5 hown5 hby5 hr5 hn5 hb5)
  go_ret2
  exact ⟨A5, c5, rfl, ⟨hby5, hn5, by rw [HM.out.1]; exact hr5⟩, HM.out.1, HB1.out.trans hb5⟩
end Go.Proofs.YtelcoeeijkainaaDoor.Sec
