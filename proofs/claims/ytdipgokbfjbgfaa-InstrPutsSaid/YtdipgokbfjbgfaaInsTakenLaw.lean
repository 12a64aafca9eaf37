/-
  InsTakenLaw: trammellaw06.InstrTaken returns true, if instr's functions answer as the plain words do. Condition: that premise.
-/
import Derived.Test.YtdipgokbfjbgfaaInsDoes
namespace Go.Proofs.Ytdipgokbfjbgfaa.Ins
open Go.RowKit Leb Typ

/-- An instruction's box: five cells, in a new block, kept. -/
structure B5 (w W : World) (g : Nat) (op a b k : Int) (A : Option Addr) (n c : Nat) : Prop where
  below : Below w.heap.size w W
  size : g < W.heap.size
  c0 : W.cell? ⟨g, 0, none⟩ = some (.int .i64 op)
  c1 : W.cell? ⟨g, 1, none⟩ = some (.int .i64 a)
  c2 : W.cell? ⟨g, 2, none⟩ = some (.int .i64 b)
  c3 : W.cell? ⟨g, 3, none⟩ = some (.int .i64 k)
  c4 : W.cell? ⟨g, 4, none⟩ = some (.slice A n c)
theorem B5.keep {w W W' : World} {g : Nat} {op a b k : Int} {A : Option Addr} {n c : Nat} (h : B5 w W g op a b k A n c) (h' : Below W.heap.size W W') : B5 w W' g op a b k A n c := by
  have hs := h.size
  have C : ∀ p : Addr, p.block = g → W'.cell? p = W.cell? p := fun p hp => h'.cell (by omega)
  exact ⟨h.below.trans (h'.mono h.below.size), Nat.lt_of_lt_of_le hs h'.size, (C _ rfl).trans h.c0, (C _ rfl).trans h.c1, (C _ rfl).trans h.c2, (C _ rfl).trans h.c3, (C _ rfl).trans h.c4⟩
theorem b5_of {w w1 : World} (hb : Below w.heap.size w w1) (op a b k : Int) (A : Option Addr) (n c : Nat) (t : TypeId) : B5 w (w1.alloc (.cells #[.int .i64 op, .int .i64 a, .int .i64 b, .int .i64 k, .slice A n c] t)) w1.heap.size op a b k A n c := by
  have hr := (MapKept.heap_alloc w1 (.cells #[.int .i64 op, .int .i64 a, .int .i64 b, .int .i64 k, .slice A n c] t)).1
  exact ⟨hb.alloc hb.size _, by simp, by simp only [World.cell?, hr]; rfl, by simp only [World.cell?, hr]; rfl, by simp only [World.cell?, hr]; rfl, by simp only [World.cell?, hr]; rfl, by simp only [World.cell?, hr]; rfl⟩
section
variable (A : Option Addr) (len c m : Nat) (w : World) (hm : min (len : Int) 4000 = (m : Int)) (hmc : m ≤ c) (hm3 : m ≤ 4000)
  (HA : Hid (Calls Try.prog 8 #[] w fun e w' => e = .returned (.bool true) ∧ Below w.heap.size w w'))
  (op a b k : Int) (ls : List Int) (n er nl : Nat) (hnl : ls.length = nl) (pb : List Nat) (kp : Nat) (he : er = 0 ∧ kp ≤ n ∨ ((er : Int) == 0) = false)
  (HO : Hid (∀ W, Below w.heap.size w W → Calls Try.prog 22 #[.slice A m c] W (One3 W (⟨op, a, b, k, ls⟩, n, er))))
  (HP : Hid (er = 0 → ∀ W v, Below w.heap.size w W → InsV W v ⟨op, a, b, k, ls⟩ → Calls Try.prog 11 #[.slice none 0 0, v] W (PutIs W pb kp 0)))
  (HF : Hid (er = 0 → ∀ W v, Below w.heap.size w W → InsV W v ⟨op, a, b, k, ls⟩ → Calls Try.prog 13 #[v] W (Tells W true)))
  (xs : List Ins) (n2 er2 k2 : Nat) (hk2 : xs.length = k2) (qb : List Nat) (kq : Nat) (he2 : er2 = 0 ∧ kq ≤ n2 ∧ k2 ≤ n2 ∨ ((er2 : Int) != 0) = true ∧ k2 = 0 ∧ n2 = 0)
  (HB : Hid (∀ W, Below w.heap.size w W → Calls Try.prog 24 #[.slice A m c] W (Body3 W (xs, n2, er2))))
  (HPB : Hid (er2 = 0 → ∀ W A' c', Below w.heap.size w W → Sli W A' c' xs → Calls Try.prog 17 #[.slice none 0 0, .slice A' k2 c'] W (PutIs W qb kq 0)))
  (HC : Hid (er2 = 0 → ∀ W A' c', Below w.heap.size w W → Sli W A' c' xs → Calls Try.prog 19 #[.slice A' k2 c'] W (Tells W true)))
include hm hmc hm3 HA hnl he HO HP HF hk2 he2 HB HPB HC
set_option maxHeartbeats 4000000 in
set_option maxRecDepth 100000 in
theorem taken_walk :
    Calls Try.prog 5 #[.slice A len c] w fun e w' => e = .returned (.bool true) ∧ Below w.heap.size w w' := by
  have HNL := Lib.hid hnl
  have HK2 := Lib.hid hk2
  have HE := Lib.hid he
  have HE2 := Lib.hid he2
  clear hnl hk2 he he2
  go_enter Try.func5, Try.ntmps5
  go_upto_region 3 with (go_at_call 8; refine HA.out.mono ?_; rintro e w1 ⟨rfl, hb1⟩)
  go_cut [0] (fun s0 wx => s0 = .slice A m c ∧ Below w.heap.size w wx)
  case first =>
    by_cases hs : (len : Int) ≤ 4000
    · obtain rfl : len = m := by omega
      go_wp2
      go_meet
      exact ⟨rfl, hb1⟩
    · obtain rfl : m = 4000 := by omega
      have hc3 : (4000 : Int) ≤ (c : Int) := by omega
      go_wp2
      go_meet
      exact ⟨rfl, hb1⟩
  case rest =>
    obtain ⟨rfl, hb2⟩ := hcut
    clear hm HA hb1
    go_wp2_with fail
    refine (HO.out _ hb2).mono ?_
    rintro e w2 ⟨v2, rfl, hv2, hb3⟩
    have hb4 := hb2.trans (hb3.mono hb2.size)
    have hv2' := hv2
    obtain ⟨A1, c1, rfl, _, _, _⟩ := hv2'
    simp only at hv2 ⊢
    rw [HNL.out] at hv2 ⊢
    have HX := Lib.hid (b5_of hb4 op a b k A1 nl c1 25)
    have HV := Lib.hid (hv2.below ((Below.refl _ _).alloc (Nat.le_refl _) (.cells #[.int .i64 op, .int .i64 a, .int .i64 b, .int .i64 k, .slice A1 nl c1] 25)))
    clear hb2 hb3 hv2 HO hb4
    go_upto_if 27 with fail
    generalize w2.alloc _ = w3 at *
    generalize w2.heap.size = g at *
    go_cut [2] (fun s2 wx => s2 = .bool false ∧ Below w.heap.size w wx)
    case first =>
      rcases HE.out with ⟨rfl, hkp⟩ | hne
      · obtain ⟨_, _, q0, q1, q2, q3, q4⟩ := HX.out
        go_wp2_with fail
        refine (HP.out (by trivial) _ _ HX.out.below HV.out).mono ?_
        intro e w5 hput
        obtain ⟨Ab, cb, rfl, _, _, _, _, hb5⟩ := put_get hput
        have HX5 := Lib.hid (HX.out.keep hb5)
        have HV5 := Lib.hid (HV.out.below hb5)
        clear HX HV hb5 q0 q1 q2 q3 q4 hput HP
        obtain ⟨_, _, q0, q1, q2, q3, q4⟩ := HX5.out
        go_wp2_with fail
        refine (HF.out (by trivial) _ _ HX5.out.below HV5.out).mono ?_
        rintro e w6 ⟨rfl, hb6⟩
        have hb7 := (HX5.out.keep hb6).below
        have hki : ¬ (n : Int) < (kp : Int) := by omega
        clear HX5 HV5 hb6 q0 q1 q2 q3 q4 HF
        go_wp2
        go_meet
        exact ⟨rfl, hb7⟩
      · have hb7 := HX.out.below
        clear HX HV HP HF
        go_wp2
        go_meet
        exact ⟨rfl, hb7⟩
    case rest =>
      obtain ⟨rfl, hb7⟩ := hcut
      clear HX HV HP HF HE
      go_wp2_with fail
      refine (HB.out _ hb7).mono ?_
      rintro e w8 ⟨A8, c8, rfl, hs8, hb8⟩
      have hb9 := hb7.trans (hb8.mono hb7.size)
      have HS8 := Lib.hid hs8
      simp only
      rw [HK2.out]
      clear hb8 hb7 HB hs8
      rcases HE2.out with ⟨rfl, hkq, hk2n⟩ | ⟨hne, rfl, rfl⟩
      · go_wp2_with fail
        refine (HPB.out (by trivial) _ _ _ hb9 HS8.out).mono ?_
        intro e w10 hput
        obtain ⟨Ab, cb, rfl, _, _, _, _, hb10⟩ := put_get hput
        have hb11 := hb9.trans (hb10.mono hb9.size)
        have HS10 := Lib.hid (HS8.out.below hb10)
        clear hb10 hb9 HS8 HPB hput
        go_wp2_with fail
        refine (HC.out (by trivial) _ _ _ hb11 HS10.out).mono ?_
        rintro e w12 ⟨rfl, hb12⟩
        have hb13 := hb11.trans (hb12.mono hb11.size)
        have h1 : (kq : Int) ≤ (n2 : Int) := by omega
        have h2 : (k2 : Int) ≤ (n2 : Int) := by omega
        clear hb11 hb12 HS10 HC hkq hk2n
        go_wp2
        go_ret
        exact ⟨rfl, hb13⟩
      · clear HPB HC HS8
        go_wp2
        go_ret
        exact ⟨rfl, hb9⟩
end
theorem taken_law {T : World → Prop} (D : Does T) (A : Option Addr) (l : List Nat) (c : Nat) (w : World) (hT : T w) (hs : Slc w A c l) :
    Calls Try.prog 5 #[.slice A l.length c] w fun e w' => e = .returned (.bool true) ∧ Below w.heap.size w w' := by
  have HA := Lib.hid (awake_any D w hT)
  obtain ⟨m, hm⟩ : ∃ m, m = min l.length 4000 := ⟨_, rfl⟩
  have hr := hs.room
  have hs1 := Slc.cutTo hs m
  have hlen : (l.take m).length = m := by simp; omega
  have hby := hs1.bytes.1
  have HO : ∀ r, oneRes (l.take m) 0 = r → Hid (∀ W, Below w.heap.size w W → Calls Try.prog 22 #[.slice A m c] W (One3 W r)) := fun r h => Lib.hid fun W hW => by
    have := D.one A (l.take m) c W (hs1.below hW) (by omega) (D.keep _ _ hT hW)
    rw [hlen, h] at this
    exact this
  have HB : ∀ r, bodyRes (l.take m) = r → Hid (∀ W, Below w.heap.size w W → Calls Try.prog 24 #[.slice A m c] W (Body3 W r)) := fun r h => Lib.hid fun W hW => by
    have := D.body A (l.take m) c W (hs1.below hW) (by omega) (D.keep _ _ hT hW)
    rw [hlen, h] at this
    exact this
  generalize hg : oneRes (l.take m) 0 = g at HO
  generalize hg2 : bodyRes (l.take m) = g2 at HB
  obtain ⟨x, n, er⟩ := g
  obtain ⟨xs, n2, er2⟩ := g2
  have hone : er = 0 → formedI x ∧ (insBytes x).length ≤ n := fun h => by
    subst h
    have := oneTaken hby hg
    exact ⟨this.1, by omega⟩
  have hbody : er2 = 0 → closedI xs ∧ (allBytes xs).length ≤ n2 ∧ xs.length ≤ n2 := fun h => by
    subst h
    exact bodyRes_taken hby hg2
  have hbad : er2 ≠ 0 → xs.length = 0 ∧ n2 = 0 := fun h => by
    have := bodyRes_err (l.take m) (by rw [hg2]; exact h)
    rw [hg2] at this
    simp only at this
    rw [this.1, this.2]
    exact ⟨rfl, rfl⟩
  obtain ⟨op, a, b, k, ls⟩ := x
  refine taken_walk A l.length c m w (by omega) (by omega) (by omega) HA op a b k ls n er _ rfl (insBytes ⟨op, a, b, k, ls⟩) (insBytes ⟨op, a, b, k, ls⟩).length ?_ (HO _ rfl) (Lib.hid fun he W v hW hv => ?_) (Lib.hid fun he W v hW hv => ?_) xs n2 er2 _ rfl (allBytes xs) (allBytes xs).length ?_ (HB _ rfl) (Lib.hid fun he W A' c' hW hx => ?_) (Lib.hid fun he W A' c' hW hx => ?_)
  · by_cases he : er = 0
    · exact .inl ⟨he, (hone he).2⟩
    · exact .inr (by simp; omega)
  · have hf := (hone he).1
    have hB := (formedB_iff _).2 hf
    have hw := formed_wide _ hf
    have := D.put none [] 0 _ v _ W (slc_none W) (by simp) hv hw.1 (by omega) rfl (D.keep _ _ hT hW)
    rw [hB] at this
    exact this
  · have hf := (hone he).1
    have hB := (formedB_iff _).2 hf
    have hw := formed_wide _ hf
    have := D.formed v _ W hv hw.1 (by omega) (D.keep _ _ hT hW)
    rw [hB] at this
    exact this
  · by_cases he : er2 = 0
    · exact .inl ⟨he, (hbody he).2⟩
    · exact .inr ⟨by simp; omega, hbad he⟩
  · have hf := (hbody he).1
    have hB := (shutB_iff _).2 hf
    have := D.putBody none A' [] xs 0 c' _ W (slc_none W) (by simp) hx (closed_is_short _ hf) rfl (D.keep _ _ hT hW)
    rw [hB] at this
    exact this
  · have hf := (hbody he).1
    have hB := (shutB_iff _).2 hf
    have := D.closed A' xs c' W hx (closed_is_short _ hf) (D.keep _ _ hT hW)
    rw [hB] at this
    exact this
end Go.Proofs.Ytdipgokbfjbgfaa.Ins
