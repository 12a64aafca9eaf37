/-
  InsRAll: trammelref06.All: the bytes of instructions that are formed. Conditions: each is formed; at most 2100.
-/
import Derived.Test.YtdipgokbfjbgfaaInsBytes
import Derived.Test.YtdipgokbfjbgfaaInsPlain
namespace Go.Proofs.Ytdipgokbfjbgfaa.Ins
open Go.RowKit Leb Typ

theorem formed_fits (x : Ins) (hf : formedI x) : ∃ qs, FitsB x qs := by
  have hw := formed_wide x hf
  obtain ⟨qs, hp, hfit, hset⟩ := hf
  obtain ⟨op, a, b, k, l⟩ := x
  obtain ⟨⟨w0, w1, w2, w3, w4⟩, hl⟩ := hw
  simp only at hp w0 w1 w2 w3 w4 hl
  have hm := pat_mem _ qs hp
  simp only [List.mem_cons, List.not_mem_nil, or_false] at hm
  have key : (Part.t ∈ qs ∨ fitsU a) ∧ fitsU b ∧ ∀ n ∈ l, fitsU n := by
    clear hp
    rcases hm with rfl | rfl | rfl | rfl | rfl | rfl | rfl | rfl | rfl | rfl
    all_goals
      simp only [setParts, List.foldl, setPart, zeroIns, Ins.mk.injEq, true_and] at hset
      simp only [List.mem_cons, List.not_mem_nil, or_false, forall_eq_or_imp, forall_eq, partFits] at hfit
      refine ⟨?_, ?_, ?_⟩
      · first
          | exact .inl (List.mem_singleton.2 rfl)
          | (right; unfold fitsU at *; omega)
      · unfold fitsU at *; omega
      · first
          | exact hfit.1.2
          | (have hl0 : l = [] := by first | exact hset.symm | exact hset.2.symm | exact hset.2.2.symm | exact hset.2.2.2.symm
             subst hl0
             simp)
  exact ⟨qs, ⟨hp, key.1, w1, key.2.1, w3, key.2.2, by simp only; omega⟩⟩
theorem rins_len (x : Ins) (hf : formedI x) : (insBytes x).length ≤ 5000 ∧ ∀ y ∈ insBytes x, y < 256 := by
  have hw := formed_wide x hf
  obtain ⟨qs, hp, hfit, _⟩ := hf
  have hr := pat_range x.op qs hp
  obtain ⟨o, ho⟩ : ∃ o : Nat, x.op = (o : Int) := ⟨x.op.toNat, by omega⟩
  have e : insBytes x = headBytes (o : Int) ++ (partChars qs).flatMap (chBytes x) := by rw [chBytes_parts]; unfold insBytes; rw [hp, ho]; rfl
  rw [e]
  exact ⟨ib_len o x _ (by omega) (partChars_len qs (pat_len _ _ hp)).2, bytes_lt o x _ (by omega)⟩
theorem rbytes_gives (v : Value) (x : Ins) (w : World) (k : Nat) (hv : InsV w v x) (hf : formedI x) (hk : (insBytes x).length = k) : Calls Try.prog 16 #[v] w (GivesB w (insBytes x) k) := by
  obtain ⟨qs, hq⟩ := formed_fits x hf
  exact gives_b (rbytes_any v x qs w hv hq) (rins_len x hf).2 hk
theorem allB_next (xs : List Ins) (j : Nat) (h : j < xs.length) : allBytes (xs.take (j + 1)) = allBytes (xs.take j) ++ insBytes xs[j] := by
  unfold allBytes
  rw [List.take_succ_eq_append_getElem h, List.flatMap_append]
  simp
theorem allB_le (xs : List Ins) (h : ∀ x ∈ xs, formedI x) : (allBytes xs).length ≤ 5000 * xs.length ∧ ∀ y ∈ allBytes xs, y < 256 := by
  induction xs with
  | nil => simp [allBytes]
  | cons x xs ih =>
    have h1 := rins_len x (h x (by simp))
    have h2 := ih (fun y hy => h y (by simp [hy]))
    simp only [allBytes, List.flatMap_cons, List.length_append, List.length_cons] at h2 ⊢
    exact ⟨by omega, fun y hy => (List.mem_append.1 hy).elim (h1.2 y) (h2.2 y)⟩
set_option maxHeartbeats 4000000 in
set_option maxRecDepth 100000 in
theorem rall_any (w : World) (A' : Option Addr) (c' k : Nat) (xs : List Ins) (hxs : (xs.length : Int) ≤ 2100) (hi : Inss w w.heap.size A' xs) (hfs : ∀ x ∈ xs, formedI x) (hk : (allBytes xs).length = k) :
    Calls Try.prog 20 #[.slice A' xs.length c'] w (GivesB w (allBytes xs) k) := by
  have HI := Lib.hid hi
  have HFS := Lib.hid hfs
  have HK := Lib.hid hk
  clear hi hfs hk
  go_enter Try.func20, Try.ntmps20
  go_wp2_with fail
  go_loopw [3, 4] (fun x3 x4 wr => ∃ (j : Nat) (Ao : Option Addr) (co ko : Nat), j ≤ xs.length ∧ x3 = .slice Ao ko co ∧ x4 = .int .i64 (j : Int) ∧ Hid (Own wr w.heap.size (.slice Ao ko co) (allBytes (xs.take j)) ∧ Bytes wr wr.heap.size Ao (allBytes (xs.take j)) ∧ (Ao = none → co = 0) ∧ ko ≤ co ∧ (allBytes (xs.take j)).length = ko) ∧ Hid (Below w.heap.size w wr)) (fun _ i _ => xs.length - (intOf i).toNat)
  case atStart => exact ⟨0, none, 0, 0, Nat.zero_le _, rfl, by go_num, Lib.hid ⟨Own.nil _ _, ⟨by simp [allBytes], by simp [allBytes]⟩, fun _ => rfl, Nat.le_refl _, rfl⟩, Lib.hid (Below.refl _ _)⟩
  case round =>
    obtain ⟨j, Ao, co, ko, hj, rfl, rfl, HJ, HBL⟩ := hrel
    by_cases hjl : j < xs.length
    · have hji : (j : Int) < (xs.length : Int) := by omega
      obtain ⟨b, off, rfl, hb, hc⟩ := HI.out (by omega)
      obtain ⟨LA, lc, q0, q1, q2, q3, q4, q5, q6, q7⟩ := hc j hjl
      have hf := HFS.out _ (List.getElem_mem hjl)
      have C : ∀ i, wr.cell? ⟨b, i, none⟩ = w.cell? ⟨b, i, none⟩ := fun i => HBL.out.cell (p := ⟨b, i, none⟩) hb
      have d0 := (C _).trans q0
      have d1 := (C _).trans q1
      have d2 := (C _).trans q2
      have d3 := (C _).trans q3
      have d4 := (C _).trans q4
      obtain ⟨kb, hkb⟩ : ∃ kb, (insBytes xs[j]).length = kb := ⟨_, rfl⟩
      have HBO : Hid (∀ W, Below w.heap.size w W → Calls Try.prog 16 #[.agg #[.int .i64 xs[j].op, .int .i64 xs[j].a, .int .i64 xs[j].b, .int .i64 xs[j].k, .slice LA xs[j].l.length lc]] W (GivesB W (insBytes xs[j]) kb)) := Lib.hid fun W hW =>
        rbytes_gives _ xs[j] W kb (InsV.below ⟨LA, lc, rfl, q5, q6, q7⟩ hW) hf hkb
      have hall := allB_le (xs.take j) (fun x hx => HFS.out x (List.mem_of_mem_take hx))
      have hil := rins_len xs[j] hf
      obtain ⟨g1, g2, g3, g4, g5⟩ := HJ.out
      have hko : ko ≤ 12000000 := by
        have h1 := hall.1
        rw [List.length_take] at h1
        omega
      have HO1 : Hid (Own wr w.heap.size (.slice Ao ko co) (allBytes (xs.take j))) := Lib.hid g1
      have HLB := Lib.hid hall.2
      have HNX : Hid (allBytes (xs.take j) ++ insBytes xs[j] = allBytes (xs.take (j + 1))) := Lib.hid (by rw [allB_next xs j hjl])
      have HKK : Hid ((allBytes (xs.take j) ++ insBytes xs[j]).length = ko + kb) := Lib.hid (by rw [List.length_append, g5, hkb])
      have HKB := Lib.hid hkb
      have hkk : ko + kb ≤ 140737488355328 := by have := hil.1; omega
      have HKL := Lib.hid hkk
      clear C q0 q1 q2 q3 q4 q5 q6 q7 hf hc hall hil g1 g2 g3 g4 g5 hko hkb hkk HJ
      generalize xs[j].l.length = ln at *
      generalize insBytes xs[j] = ib at *
      generalize xs[j].op = op at *
      generalize xs[j].a = xa at *
      generalize xs[j].b = xb at *
      generalize xs[j].k = xk at *
      go_wp2_with fail
      refine (HBO.out _ HBL.out).mono ?_
      rintro en w4 ⟨A4, c4, rfl, hown4, hB4, hn4, hc4, hb4⟩
      have hownA := HO1.out.keep hb4 HO1.out.lt
      have HL4 := Lib.hid (HBL.out.trans (hb4.mono HBL.out.size))
      have hbase := HL4.out.size
      clear HBO HO1 HBL hb4 hown4 d0 d1 d2 d3 d4
      go_wp2_with (at_builtin; refine app_slice rfl (.tmp 11) (.tmp 16) rfl w.heap.size _ (allBytes (xs.take j)) rfl hownA HLB.out A4 ib kb c4 _ (ko + kb) HKB.out rfl hB4 hn4 HKK.out HKL.out hbase ?_; intro A5 c5 w5 hown5 hB5 hc5 hn5 hb5)
      have HF5 : Hid (Own w5 w.heap.size (.slice A5 (ko + kb) c5) (allBytes (xs.take (j + 1))) ∧ Bytes w5 w5.heap.size A5 (allBytes (xs.take (j + 1))) ∧ (A5 = none → c5 = 0) ∧ ko + kb ≤ c5 ∧ (allBytes (xs.take (j + 1))).length = ko + kb) := Lib.hid (by
        rw [← HNX.out]
        exact ⟨hown5, hB5, hn5, hc5, HKK.out⟩)
      have HL5 := Lib.hid (HL4.out.trans hb5)
      clear hown5 hB5 hc5 hn5 hb5 hownA hbase
      go_roundw
      case rel => exact ⟨j + 1, A5, c5, ko + kb, by omega, rfl, by go_num, HF5, HL5⟩
      case measure => simp [intOf]; omega
    · obtain rfl : j = xs.length := by omega
      have hji : ¬ (xs.length : Int) < (xs.length : Int) := by omega
      obtain ⟨g1, g2, g3, g4, g5⟩ := HJ.out
      rw [List.take_length] at g1 g2 g5
      obtain rfl : ko = k := by rw [← g5, HK.out]
      have HG := Lib.hid (And.intro g1 g2)
      clear HJ g1 g2 g5 HI HFS
      go_wp2
      go_ret
      exact ⟨Ao, co, rfl, HG.out.1, HG.out.2, g3, g4, HBL.out⟩
end Go.Proofs.Ytdipgokbfjbgfaa.Ins
