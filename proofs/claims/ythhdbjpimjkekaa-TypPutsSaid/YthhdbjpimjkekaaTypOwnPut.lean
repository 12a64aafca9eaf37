/-
  typ.putValues, PutFunc, PutLimits, PutBlock: what each comes to. Conditions: slices lead to bytes (at most 1000), or ints; numbers are of 64 bits.
-/
import Derived.Test.YthhdbjpimjkekaaTypOwnLow
import Derived.Test.YthhdbjpimjkekaaTypBackMath
import Derived.Deep.RegionHeldLaw
namespace Go.Proofs.Ythhdbjpimjkekaa.Typ
open Go.RowKit Leb

theorem gives_bb {w : World} {l : List Nat} {k : Nat} {e : Ending} {w' : World} (h : Gives w l e w') (hl : ∀ x ∈ l, x < 256) (hk : l.length = k) : GivesB w l k e w' := by
  obtain ⟨v, rfl, hown, hbel⟩ := h
  subst hk
  obtain ⟨A, c, rfl, hb, hc, h0⟩ := hown.bytes hl
  exact ⟨A, c, rfl, hown, hb, h0, hc, hbel⟩
set_option maxHeartbeats 1000000 in
set_option maxRecDepth 100000 in
theorem oputv_run (A A' : Option Addr) (l : List Nat) (xs : List Int) (c c' n k : Nat) (w : World) (hi : Ints w w.heap.size A' xs) (hn : xs.length = n) (hk : l.length = k) (hg : good xs) (hl : k ≤ 100000)
    (HP : Hid (Calls Try.prog 40 #[.slice A k c, .int .u64 (n : Int)] w (Gives w (l ++ [n])))) :
    Calls Try.prog 38 #[.slice A k c, .slice A' n c'] w (Gives w (l ++ natsOf xs)) := by
  have hn8 : n ≤ 8 := by rw [← hn]; exact hg.1
  have hw : IntKind.u64.wrap (n : Int) = (n : Int) := by rw [IntKind.wrap_u64]; omega
  have HN := Lib.hid hn
  have HG := Lib.hid hg.2
  have HK := Lib.hid hk
  clear hn hg hk
  go_enter Try.func38, Try.ntmps38
  go_wp2_with fail
  refine HP.out.mono ?_
  rintro e w1 ⟨v1, rfl, hown1, hb1⟩
  clear HP
  go_wp2
  go_loopw [5, 15] (fun v i wr => ∃ j : Nat, j ≤ n ∧ i = .int .i64 (j : Int) ∧ Own wr w.heap.size v (l ++ [n] ++ (xs.take j).map Int.toNat) ∧ Below w.heap.size w wr) (fun _ i _ => n - (intOf i).toNat)
  case atStart => exact ⟨0, Nat.zero_le _, rfl, by simpa using hown1, hb1⟩
  case round =>
    obtain ⟨j, hj, rfl, hown, hbel⟩ := hrel
    clear hown1 hb1
    have hsz := hbel.size
    by_cases hlt : j < n
    · have hlti : (j : Int) < (n : Int) := by omega
      have hjx : j < xs.length := by rw [HN.out]; exact hlt
      obtain ⟨b, off, rfl, hbl, hcs⟩ := (hi.below hbel) (by omega)
      have hc := hcs j hjx
      have HT : Hid ((xs.take (j + 1)).map Int.toNat = (xs.take j).map Int.toNat ++ [xs[j].toNat]) := Lib.hid (by rw [List.take_succ_eq_append_getElem hjx, List.map_append]; rfl)
      have hy := HG.out _ (List.getElem_mem hjx)
      have hln : (l ++ [n] ++ (xs.take j).map Int.toNat).length ≤ 200000 := by simp; have := HK.out; omega
      clear hcs hi
      generalize xs[j] = y at *
      obtain ⟨z, rfl⟩ : ∃ z : Nat, y = (z : Int) := ⟨y.toNat, by omega⟩
      rw [Int.toNat_natCast] at HT
      have hz : z < 256 := by omega
      have hzw : IntKind.u8.wrap (z : Int) = (z : Int) := IntWalk.u8_in _ (by omega)
      clear hy
      go_wp2_with (at_builtin; refine app_bytes rfl (.tmp 19) (.tmp 22) rfl w.heap.size _ (l ++ [n] ++ (xs.take j).map Int.toNat) rfl (hown.alloc _) _ [z] 1 _ rfl (bytes_one _ z hz _) (fun h => by cases h) (by simp at hln ⊢; omega) (by simp; omega) ?_; intro v2 w2 hown2 hbel2)
      go_roundw
      case rel => exact ⟨j + 1, by omega, by go_num, by rw [HT.out, ← List.append_assoc]; exact hown2, (hbel.alloc hsz _).trans hbel2⟩
      case measure => simp [intOf]; omega
    · have hlti : ¬ (j : Int) < (n : Int) := by omega
      obtain rfl : j = n := by omega
      rw [List.take_of_length_le (by rw [HN.out]; exact Nat.le_refl _)] at hown
      have HE : Hid (l ++ natsOf xs = l ++ [j] ++ xs.map Int.toNat) := Lib.hid (by unfold natsOf; rw [HN.out]; simp)
      clear hi
      go_wp2
      go_ret
      rw [HE.out]
      exact ⟨_, rfl, hown, hbel⟩
theorem natsOf_byte (xs : List Int) (hg : good xs) : ∀ x ∈ natsOf xs, x < 256 := by
  intro x hx
  unfold natsOf at hx
  rcases List.mem_cons.1 hx with rfl | hx
  · have := hg.1; omega
  · obtain ⟨y, hy, rfl⟩ := List.mem_map.1 hx
    rcases hg.2 y hy with rfl | rfl <;> decide
theorem oputv_any (A A' : Option Addr) (l : List Nat) (xs : List Int) (c c' n k k2 : Nat) (w : World) (hb : Bytes w w.heap.size A l) (hc : A = none → c = 0) (hi : Ints w w.heap.size A' xs) (hn : xs.length = n) (hk : l.length = k) (hg : good xs) (hl : k ≤ 100000) (hk2 : (l ++ natsOf xs).length = k2) :
    Calls Try.prog 38 #[.slice A k c, .slice A' n c'] w (GivesB w (l ++ natsOf xs) k2) := by
  have hn8 : n ≤ 8 := by rw [← hn]; exact hg.1
  refine (oputv_run A A' l xs c c' n k w hi hn hk hg hl ?_).mono fun e w' h => gives_bb h (fun x hx => (List.mem_append.1 hx).elim (hb.1 x) (natsOf_byte xs hg x)) hk2
  have := putU_any A l c n w hb hc (by omega) (by omega)
  rw [putU_one n (by omega), hk] at this
  exact Lib.hid this
theorem putIs_nil {w w' : World} (hb : Below w.heap.size w w') : PutIs w [] 0 2 (.returned (.tuple #[.slice none 0 0, .int .i64 2])) w' :=
  ⟨none, 0, rfl, Own.nil _ _, ⟨by simp, by simp⟩, fun _ => rfl, Nat.le_refl _, hb⟩
theorem putIs_of {w w0 w' : World} {A : Option Addr} {k c : Nat} {l : List Nat} (hown : Own w' w0.heap.size (.slice A k c) l) (h0 : w.heap.size ≤ w0.heap.size) (hb : Bytes w' w'.heap.size A l) (hn : A = none → c = 0) (hk : k ≤ c) (hbel : Below w.heap.size w w') : PutIs w l k 0 (.returned (.tuple #[.slice A k c, .int .i64 0])) w' :=
  ⟨A, c, rfl, own_from hown h0, hb, hn, hk, hbel⟩
theorem begin_b (A : Option Addr) (l : List Nat) (c x k : Nat) (w : World) (hb : Bytes w w.heap.size A l) (hc : A = none → c = 0) (hl : l.length ≤ 70368744177664) (hx : x < 256) (hk : l.length = k) : Calls Try.prog 37 #[.slice A k c, .int .u8 (x : Int)] w (GivesB w (l ++ [x]) (k + 1)) := by
  subst hk
  exact (begin_any A l c x w hb hc hl hx).mono fun e w' h => gives_bb h (fun y hy => (List.mem_append.1 hy).elim (hb.1 y) (fun h => by simp at h; omega)) (by simp)
/-- A struct parameter's box of two, three cells, kept. -/
structure B2 (w W : World) (x0 x1 : Value) : Prop where
  below : Below w.heap.size w W
  size : w.heap.size < W.heap.size
  c0 : W.cell? ⟨w.heap.size, 0, none⟩ = some x0
  c1 : W.cell? ⟨w.heap.size, 1, none⟩ = some x1
theorem B2.keep {w W W' : World} {x0 x1 : Value} (h : B2 w W x0 x1) (h' : Below W.heap.size W W') : B2 w W' x0 x1 := by
  have hs := h.size
  have C : ∀ p : Addr, p.block = w.heap.size → W'.cell? p = W.cell? p := fun p hp => h'.cell (by omega)
  exact ⟨h.below.trans (h'.mono h.below.size), Nat.lt_of_lt_of_le hs h'.size, (C _ rfl).trans h.c0, (C _ rfl).trans h.c1⟩
theorem b2_of (w : World) (x0 x1 : Value) (t : TypeId) : B2 w (w.alloc (.cells #[x0, x1] t)) x0 x1 := by
  have hr := (MapKept.heap_alloc w (.cells #[x0, x1] t)).1
  exact ⟨(Below.refl _ _).alloc (Nat.le_refl _) _, by simp, by simp only [World.cell?, hr]; rfl, by simp only [World.cell?, hr]; rfl⟩
section
variable (A A1 A2 : Option Addr) (len c n1 c1 n2 c2 : Nat) (w : World)
set_option maxHeartbeats 1000000 in
set_option maxRecDepth 100000 in
theorem oputf_no1 (HM1 : Hid (∀ W, Below w.heap.size w W → Calls Try.prog 36 #[.slice A1 n1 c1] W (Same1 W (.bool false)))) :
    Calls Try.prog 17 #[.slice A len c, .agg #[.slice A1 n1 c1, .slice A2 n2 c2]] w (PutIs w [] 0 2) := by
  have HB := Lib.hid (b2_of w (.slice A1 n1 c1) (.slice A2 n2 c2) 26)
  go_enter Try.func17, Try.ntmps17
  go_wp2_with fail
  refine (HM1.out _ HB.out.below).mono ?_
  rintro e w1 ⟨rfl, rfl⟩
  go_wp2
  go_ret2
  exact putIs_nil HB.out.below
set_option maxHeartbeats 1000000 in
set_option maxRecDepth 100000 in
theorem oputf_no2 (HM1 : Hid (∀ W, Below w.heap.size w W → Calls Try.prog 36 #[.slice A1 n1 c1] W (Same1 W (.bool true)))) (HM2 : Hid (∀ W, Below w.heap.size w W → Calls Try.prog 36 #[.slice A2 n2 c2] W (Same1 W (.bool false)))) :
    Calls Try.prog 17 #[.slice A len c, .agg #[.slice A1 n1 c1, .slice A2 n2 c2]] w (PutIs w [] 0 2) := by
  have HB := Lib.hid (b2_of w (.slice A1 n1 c1) (.slice A2 n2 c2) 26)
  go_enter Try.func17, Try.ntmps17
  go_wp2_with fail
  refine (HM1.out _ HB.out.below).mono ?_
  rintro e w1 ⟨rfl, rfl⟩
  go_wp2_with fail
  refine (HM2.out _ HB.out.below).mono ?_
  rintro e w1 ⟨rfl, rfl⟩
  go_wp2
  go_ret2
  exact putIs_nil HB.out.below
set_option maxHeartbeats 1000000 in
set_option maxRecDepth 100000 in
theorem oputf_ok (l : List Nat) (ps rs : List Int) (k : Nat) (hl : l.length = len) (hl2 : len ≤ 1000) (hn1 : ps.length = n1) (hn2 : rs.length = n2) (g1 : good ps) (g2 : good rs) (hk : (l ++ funcBytes ps rs).length = k) (hi1 : Ints w w.heap.size A1 ps) (hi2 : Ints w w.heap.size A2 rs)
    (HM1 : Hid (∀ W, Below w.heap.size w W → Calls Try.prog 36 #[.slice A1 n1 c1] W (Same1 W (.bool true)))) (HM2 : Hid (∀ W, Below w.heap.size w W → Calls Try.prog 36 #[.slice A2 n2 c2] W (Same1 W (.bool true))))
    (HG : Hid (∀ W, Below w.heap.size w W → Calls Try.prog 37 #[.slice A len c, .int .u8 96] W (GivesB W (l ++ [96]) (len + 1)))) :
    Calls Try.prog 17 #[.slice A len c, .agg #[.slice A1 n1 c1, .slice A2 n2 c2]] w (PutIs w (l ++ funcBytes ps rs) k 0) := by
  have HB := Lib.hid (b2_of w (.slice A1 n1 c1) (.slice A2 n2 c2) 26)
  obtain ⟨k1, hk1⟩ : ∃ k1, k1 = len + 1 := ⟨_, rfl⟩
  obtain ⟨k2, hk2⟩ : ∃ k2, (l ++ [96] ++ natsOf ps).length = k2 := ⟨_, rfl⟩
  have hk3 : (l ++ [96] ++ natsOf ps ++ natsOf rs).length = k := by rw [← hk]; simp [funcBytes]
  have HE : Hid (l ++ funcBytes ps rs = l ++ [96] ++ natsOf ps ++ natsOf rs) := Lib.hid (by simp [funcBytes])
  have hk10 : k1 ≤ 2000 := by omega
  have hk20 : k2 ≤ 3000 := by rw [← hk2]; simp [natsOf]; have := g1.1; omega
  have hlk1 : (l ++ [96]).length = k1 := by simp; omega
  rw [← hk1] at HG
  have HP1 : Hid (∀ W B cb, Bytes W W.heap.size B (l ++ [96]) → (B = none → cb = 0) → Below w.heap.size w W → Calls Try.prog 38 #[.slice B k1 cb, .slice A1 n1 c1] W (GivesB W (l ++ [96] ++ natsOf ps) k2)) := Lib.hid fun W B cb h1 h2 h3 => oputv_any B A1 _ ps cb c1 n1 k1 k2 W h1 h2 ((hi1.below h3).more h3.size) hn1 hlk1 g1 (by omega) hk2
  have HP2 : Hid (∀ W B cb, Bytes W W.heap.size B (l ++ [96] ++ natsOf ps) → (B = none → cb = 0) → Below w.heap.size w W → Calls Try.prog 38 #[.slice B k2 cb, .slice A2 n2 c2] W (GivesB W (l ++ [96] ++ natsOf ps ++ natsOf rs) k)) := Lib.hid fun W B cb h1 h2 h3 => oputv_any B A2 _ rs cb c2 n2 k2 k W h1 h2 ((hi2.below h3).more h3.size) hn2 hk2 g2 (by omega) hk3
  clear hk1 hk2 hk3 hk hlk1 hk10 hk20 hn1 hn2 g1 g2 hi1 hi2 hl hl2
  go_enter Try.func17, Try.ntmps17
  go_wp2_with fail
  refine (HM1.out _ HB.out.below).mono ?_
  rintro e w1 ⟨rfl, rfl⟩
  go_wp2_with fail
  refine (HM2.out _ HB.out.below).mono ?_
  rintro e w1 ⟨rfl, rfl⟩
  clear HM1 HM2
  go_wp2_with fail
  refine (HG.out _ HB.out.below).mono ?_
  rintro e w1 ⟨B1, cb1, rfl, hown1, hB1, hz1, hc1, hb1⟩
  have HB1 := Lib.hid (HB.out.keep hb1)
  clear HG hown1 hb1 HB
  generalize w.alloc _ = W at *
  have q0 := HB1.out.c0
  go_wp2_with fail
  refine (HP1.out _ _ _ hB1 hz1 HB1.out.below).mono ?_
  rintro e w2 ⟨B2, cb2, rfl, hown2, hB2, hz2, hc2, hb2⟩
  have HB2 := Lib.hid (HB1.out.keep hb2)
  clear HP1 hown2 hb2 HB1 hB1 hz1 hc1 q0
  have q1 := HB2.out.c1
  go_wp2_with fail
  refine (HP2.out _ _ _ hB2 hz2 HB2.out.below).mono ?_
  rintro e w3 ⟨B3, cb3, rfl, hown3, hB3, hz3, hc3, hb3⟩
  have HB3 := Lib.hid (HB2.out.keep hb3)
  clear HP2 hb3 hB2 hz2 hc2 q1
  go_wp2
  go_ret2
  rw [HE.out]
  exact putIs_of hown3 HB2.out.below.size hB3 hz3 hc3 HB3.out.below
end
theorem oputf_any (A : Option Addr) (l : List Nat) (c k : Nat) (v : Value) (ps rs : List Int) (w : World) (hs : Slc w A c l) (hl : l.length ≤ 1000) (hv : FType w v ps rs) (hk : (putRes (rightF ps rs) l (funcBytes ps rs)).1.length = k) :
    Calls Try.prog 17 #[.slice A l.length c, v] w (PutIs w (putRes (rightF ps rs) l (funcBytes ps rs)).1 k (putRes (rightF ps rs) l (funcBytes ps rs)).2) := by
  obtain ⟨A1, c1, A2, c2, rfl, hi1, hi2, _, _, _, _⟩ := hv
  have hM : ∀ (A : Option Addr) (c : Nat) (xs : List Int), Ints w w.heap.size A xs → ∀ W, Below w.heap.size w W → Calls Try.prog 36 #[.slice A xs.length c] W (Same1 W (.bool (decide (good xs)))) := fun A c xs hi W hW => mayStand_any A xs c w.heap.size W (hi.below hW)
  have HM1 := Lib.hid (hM A1 c1 ps hi1)
  have HM2 := Lib.hid (hM A2 c2 rs hi2)
  clear hM
  by_cases g1 : good ps
  · rw [decide_eq_true g1] at HM1
    by_cases g2 : good rs
    · rw [decide_eq_true g2] at HM2
      have hR : rightF ps rs = true := decide_eq_true ⟨g1, g2⟩
      rw [hR] at hk ⊢
      exact oputf_ok A A1 A2 l.length c _ c1 _ c2 w l ps rs k rfl hl rfl rfl g1 g2 hk hi1 hi2 HM1 HM2 (Lib.hid fun W hW => begin_b A l c 96 _ W ((hs.bytes.below hW).more hW.size) hs.nil (by omega) (by omega) rfl)
    · rw [decide_eq_false g2] at HM2
      have hR : rightF ps rs = false := decide_eq_false fun h => g2 h.2
      rw [hR] at hk ⊢
      obtain rfl : 0 = k := hk
      exact oputf_no2 A A1 A2 l.length c _ c1 _ c2 w HM1 HM2
  · rw [decide_eq_false g1] at HM1
    have hR : rightF ps rs = false := decide_eq_false fun h => g1 h.1
    rw [hR] at hk ⊢
    obtain rfl : 0 = k := hk
    exact oputf_no1 A A1 A2 l.length c _ c1 _ c2 w HM1
end Go.Proofs.Ythhdbjpimjkekaa.Typ
