/-
  StoLay: inst.has, inst.lay: so many things of a list laid over those of another one that the call owns. Conditions: numbers of 64 bits, lists that memory holds.
-/
import Derived.Test.YtdcolpmmojiffaaQStoAnew
import Derived.Deep.RegionLaw
namespace Go.Proofs.Ytdcolpmmojiffaa.Sto
open Go.RowKit Leb Typ

set_option maxRecDepth 100000 in
theorem kslice_to {α : Type} (K : Kd α) (A : Option Addr) (l : List α) (c p q : Nat) (hn : A = none → c = 0) (hr : l.length ≤ c) (hp : p ≤ q) (hq : q ≤ l.length) :
    ∃ A' c', (∀ W, (Instr.slice K.st (.slice A l.length c) (some (.int .u64 (p : Int))) (some (.int .u64 (q : Int))) none).run Try.prog W = .ok (.slice A' (q - p) c') W) ∧ (∀ W B, Lead K W B A l → Lead K W B A' ((l.drop p).take (q - p))) := by
  have key : ∀ W, (Instr.slice K.st (.slice A l.length c) (some (.int .u64 (p : Int))) (some (.int .u64 (q : Int))) none).run Try.prog W = .ok (sliced A p q c 1) W := fun W => by
    rw [run_slice_lh W K.st A l.length c (by rw [K.el]; exact K.und) .u64 .u64 (p : Int) (q : Int) (by omega) (by omega) (by omega), K.sz W]
    simp [Result.andThen]
  have hlen : ((l.drop p).take (q - p)).length = q - p := by simp; omega
  by_cases hc : c = p
  · refine ⟨A, c - p, fun W => by rw [key W]; simp [sliced, hc], fun W B _ h => ?_⟩
    omega
  · refine ⟨A.map (·.add p), c - p, fun W => by rw [key W]; simp [sliced, hc], fun W B hW h => ?_⟩
    obtain ⟨b, off, rfl, h2, h3⟩ := hW (by omega)
    have := ((Lead.drop (B := B) (w := W) (b := b) (off := off) (l := l) (fun h => ⟨b, off, rfl, h2, h3⟩) p).take (q - p)) h
    by_cases h0 : p = 0
    · subst h0; simpa [Addr.add] using this
    · simpa [Addr.add, h0] using this
set_option maxRecDepth 100000 in
theorem kslice_at {α : Type} (K : Kd α) (A : Option Addr) (l : List α) (c p : Nat) (hr : l.length ≤ c) (hp : p ≤ l.length) :
    ∃ A' c', (∀ W, (Instr.slice K.st (.slice A l.length c) (some (.int .u64 (p : Int))) none none).run Try.prog W = .ok (.slice A' (l.length - p) c') W) ∧ (p < l.length → ∀ g off, A = some ⟨g, off, none⟩ → A' = some ⟨g, off + p, none⟩) := by
  have key : ∀ W, (Instr.slice K.st (.slice A l.length c) (some (.int .u64 (p : Int))) none none).run Try.prog W = .ok (sliced A p l.length c 1) W := fun W => by
    rw [run_slice_l W K.st A l.length c (by rw [K.el]; exact K.und) .u64 (p : Int) (by omega) (by omega), K.sz W]
    simp [Result.andThen]
  by_cases hc : c = p
  · exact ⟨A, c - p, fun W => by rw [key W]; simp [sliced, hc], fun h => by omega⟩
  · refine ⟨A.map (·.add p), c - p, fun W => by rw [key W]; simp [sliced, hc], fun _ g off h => ?_⟩
    subst h
    by_cases h0 : p = 0
    · subst h0; simp [Addr.add]
    · simp [Addr.add, h0]
set_option maxRecDepth 100000 in
theorem has_any (m a n : Nat) (w : World) (ha : a ≤ 18446744073709551615) (hn : n ≤ 18446744073709551615) (hm : m ≤ 140737488355328) : Calls Try.prog 30 #[.int .i64 (m : Int), .int .u64 (a : Int), .int .u64 (n : Int)] w fun e w' => e = .returned (.bool (decide (a + n ≤ m))) ∧ w' = w := by
  have hw : IntKind.u64.wrap (m : Int) = (m : Int) := by rw [IntKind.wrap_u64]; omega
  by_cases h1 : a ≤ m
  · have h1' : (a : Int) ≤ (m : Int) := by omega
    have hw2 : IntKind.u64.wrap ((m : Int) - (a : Int)) = (m : Int) - (a : Int) := by rw [IntKind.wrap_u64]; omega
    by_cases h2 : a + n ≤ m
    · have h2' : (n : Int) ≤ (m : Int) - (a : Int) := by omega
      rw [decide_eq_true h2]
      go_enter Try.func30, Try.ntmps30
      go_wp2
      go_ret
      exact ⟨rfl, rfl⟩
    · have h2' : ¬ (n : Int) ≤ (m : Int) - (a : Int) := by omega
      rw [decide_eq_false h2]
      go_enter Try.func30, Try.ntmps30
      go_wp2
      go_ret
      exact ⟨rfl, rfl⟩
  · have h1' : ¬ (a : Int) ≤ (m : Int) := by omega
    rw [decide_eq_false (show ¬ a + n ≤ m by omega)]
    go_enter Try.func30, Try.ntmps30
    go_wp2
    go_ret
    exact ⟨rfl, rfl⟩
theorem step_copy_own {P : Program} {ops : Array Oper} {o : Oper} {a : Act} {w : World} {K : Act → World → Prop} {Q : Exit → Act → World → Prop} {E : Prop} (hgd : o.guard = none) (d s : Operand) (dT sT : TypeId)
    (ho : o.op = .call { callee := .builtin .copy, args := #[d, s], argTypes := #[dT, sT] }) (elem : TypeId) (hu : P.underlying dT = some (.slice elem)) (hsz : (P.info? elem).map (·.size) = some 1)
    (dp sp : Option Addr) (dLen dCap sLen sCap : Nat) (hd : a.eval d = .slice dp dLen dCap) (hs : a.eval s = .slice sp sLen sCap)
    (g off : Nat) (cur : List Value) (t : TypeId) (cs : List Value) (hn : cs.length = Nat.min sLen dLen)
    (hpos : 0 < cs.length → w.heap[g]? = some (.cells cur.toArray t (0, 0)) ∧ dp = some ⟨g, off, none⟩ ∧ (∃ ad, sp = some ad ∧ ∀ j v, cs[j]? = some v → w.cell? (ad.add j) = some v) ∧ off + cs.length ≤ cur.length)
    (h1 : ∀ v ∈ cs, v.oneCell' = true)
    (h : ∀ w', Hid ((0 < cs.length → w' = w.setRow g (Go.splice cur off cs).toArray) ∧ (cs.length = 0 → w' = w)) → K (a.put o.dst (goInt cs.length)) w') :
    if Region.wanted o (yielded ops a.tmps) = true then Oper.wp P o a w K Q else E := by
  by_cases h0 : cs.length = 0
  · have hw : Region.wanted o (yielded ops a.tmps) = true := by simp [Region.wanted, hgd]
    rw [if_pos hw]
    obtain rfl : cs = [] := List.eq_nil_of_length_eq_zero h0
    have hrun := run_copy_none (P := P) w dT sT o.type elem dp sp dLen dCap sLen sCap hu hsz (by simpa using hn.symm)
    unfold Oper.wp
    simp [execOp, ho, resolve, invoke, builtin, hd, hs, hrun, Result.andThen]
    exact h w (Lib.hid ⟨fun h => absurd h (Nat.lt_irrefl 0), fun _ => rfl⟩)
  · obtain ⟨hg, rfl, ⟨ad, rfl, hsrc⟩, hfit⟩ := hpos (by omega)
    have hw : Region.wanted o (yielded ops a.tmps) = true := by simp [Region.wanted, hgd]
    rw [if_pos hw]
    have hrun := run_copy_row (P := P) w dT sT o.type elem g off dLen dCap ad sLen sCap cur.toArray t cs hu hsz hg hn hsrc (by simpa using hfit) h1
    unfold Oper.wp
    simp [execOp, ho, resolve, invoke, builtin, hd, hs, hrun, Result.andThen]
    exact h _ (Lib.hid ⟨fun _ => by simp [Go.splice], fun h => absurd h h0⟩)
theorem u8_sizeS : (Try.prog.info? 5).map (·.size) = some 1 := by kernel_rfl
theorem int_sizeS : (Try.prog.info? 3).map (·.size) = some 1 := by kernel_rfl
theorem splice_over {α : Type} {K : Kd α} (t f : List α) (a fr n : Nat) (cur : List Value) (hcur : cur.take t.length = t.map K.v) (h1 : fr + n ≤ f.length) (h2 : a + n ≤ t.length) (hc : t.length ≤ cur.length) : (Go.splice cur a (((f.drop fr).take n).map K.v)).take t.length = (overL t f a fr n).map K.v ∧ (Go.splice cur a (((f.drop fr).take n).map K.v)).length = cur.length := by
  have e2 : ((f.drop fr).take n).length = n := by simp; omega
  have hlen : (Go.splice cur a (((f.drop fr).take n).map K.v)).length = cur.length := Go.length_splice _ _ _ (by rw [List.length_map, e2]; omega)
  refine ⟨?_, hlen⟩
  have e3 : cur = t.map K.v ++ cur.drop t.length := by rw [← hcur, List.take_append_drop]
  generalize cur.drop t.length = r at e3
  subst e3
  have ea : (t.map K.v ++ r).take a = (t.map K.v).take a := List.take_append_of_le_length (by simp; omega)
  have ed : (t.map K.v ++ r).drop (a + n) = (t.map K.v).drop (a + n) ++ r := List.drop_append_of_le_length (by simp; omega)
  unfold Go.splice overL
  rw [List.length_map, e2, ea, ed, ← List.append_assoc, ← List.append_assoc, List.take_append_of_le_length (by simp; omega), List.take_of_length_le (by simp; omega)]
  simp only [List.map_append, List.map_take, List.map_drop, List.append_assoc]
set_option maxRecDepth 100000 in
set_option maxHeartbeats 4000000 in
theorem lay_byte (A Ao : Option Addr) (t f : List Nat) (c co a fr n base : Nat) (w : World) (hown : OwnK kB w base (.slice A t.length c) t) (ho : Lead kB w w.heap.size Ao f) (hco : f.length ≤ co) (hao : Ao = none → co = 0) (htl : t.length ≤ 1000000) (hfl : f.length ≤ 1000000) (ha : a ≤ 18446744073709551615) (hfr : fr ≤ 18446744073709551615) (hn : n ≤ 18446744073709551615) :
    Calls Try.prog 23 #[.slice A t.length c, .slice Ao f.length co, .int .u64 (a : Int), .int .u64 (fr : Int), .int .u64 (n : Int)] w fun e w' => (fr + n ≤ f.length ∧ a + n ≤ t.length → e = .returned (.bool true) ∧ OwnK kB w' base (.slice A t.length c) (overL t f a fr n)) ∧ (¬ (fr + n ≤ f.length ∧ a + n ≤ t.length) → e = .returned (.bool false)) ∧ w.grownBy w' (Value.slice A t.length c).ownBlock := by
  by_cases h2 : a + n ≤ t.length
  case neg =>
    have hd : decide (a + n ≤ t.length) = false := decide_eq_false h2
    have HA := Lib.hid (has_any t.length a n w ha hn (by omega))
    rw [hd] at HA
    have H2 : Hid (¬ (fr + n ≤ f.length ∧ a + n ≤ t.length)) := Lib.hid fun h => h2 h.2
    clear hown ho h2 hd
    go_enter Try.func23, Try.ntmps23
    go_wp2_with fail
    refine HA.out.mono ?_
    rintro en V ⟨rfl, rfl⟩
    go_wp2
    go_ret
    exact ⟨fun h => absurd h H2.out, fun _ => rfl, ⟨rfl, rfl, rfl, Nat.le_refl _, fun _ _ _ => rfl⟩⟩
  by_cases h1 : fr + n ≤ f.length
  case neg =>
    have HA := Lib.hid (has_any t.length a n w ha hn (by omega))
    have HB := Lib.hid (has_any f.length fr n w hfr hn (by omega))
    rw [decide_eq_true h2] at HA
    rw [decide_eq_false h1] at HB
    have H2 : Hid (¬ (fr + n ≤ f.length ∧ a + n ≤ t.length)) := Lib.hid fun h => h1 h.1
    clear hown ho h1 h2
    go_enter Try.func23, Try.ntmps23
    go_wp2_with fail
    refine HA.out.mono ?_
    rintro en V ⟨rfl, rfl⟩
    go_wp2_with fail
    refine HB.out.mono ?_
    rintro en V ⟨rfl, rfl⟩
    go_wp2
    go_ret
    exact ⟨fun h => absurd h H2.out, fun _ => rfl, ⟨rfl, rfl, rfl, Nat.le_refl _, fun _ _ _ => rfl⟩⟩
  case pos =>
  have HA := Lib.hid (has_any t.length a n w ha hn (by omega))
  have HB := Lib.hid (has_any f.length fr n w hfr hn (by omega))
  rw [decide_eq_true h2] at HA
  rw [decide_eq_true h1] at HB
  have H2 := Lib.hid (And.intro h1 h2)
  have hct : t.length ≤ c := by
    obtain ⟨A', c', e, _, h4, _⟩ := hown.lead
    injection e with _ _ e3
    omega
  obtain ⟨A1, c1, s1, p1⟩ := kslice_at kB A t c a hct (by omega)
  obtain ⟨A2, c2, s2, p2⟩ := kslice_to kB Ao f co fr (fr + n) hao hco (by omega) h1
  replace p2 := p2 w _ ho
  rw [show fr + n - fr = n from by omega] at p2 s2
  have hw : IntKind.u64.wrap ((fr : Int) + (n : Int)) = (fr : Int) + (n : Int) := by rw [IntKind.wrap_u64]; omega
  have q1 : ∀ W, (Instr.slice 22 (.slice A t.length c) (some (.int .u64 (a : Int))) none none).run Try.prog W = .ok (.slice A1 (t.length - a) c1) W := s1
  have q2 : ∀ W, (Instr.slice 22 (.slice Ao f.length co) (some (.int .u64 (fr : Int))) (some (.int .u64 ((fr : Int) + (n : Int)))) none).run Try.prog W = .ok (.slice A2 n c2) W := fun W => by rw [← s2 W, Int.natCast_add]; rfl
  clear s1 s2
  obtain ⟨cs, hcs⟩ : ∃ cs : List Value, cs = ((f.drop fr).take n).map (kB).v := ⟨_, rfl⟩
  have hcl : cs.length = n := by rw [hcs]; simp; omega
  have HCS := Lib.hid hcs
  have hmin : cs.length = Nat.min n (t.length - a) := by rw [hcl]; exact (Nat.min_eq_left (by omega)).symm
  have h1c : ∀ v ∈ cs, v.oneCell' = true := by rw [hcs]; exact kone _
  have hsrc : 0 < cs.length → ∃ ad, A2 = some ad ∧ ∀ j v, cs[j]? = some v → w.cell? (ad.add j) = some v := fun h => by
    obtain ⟨b, off, e, _⟩ := p2 (by simp; omega)
    subst e
    rw [hcs]
    exact ⟨_, rfl, p2.src⟩
  have hlt := hown.lt
  have hz : ((kB).et) = 5 := rfl
  obtain ⟨gb, cur, hgb, hgB, hcurl, hcurt, hfin, hpos⟩ : ∃ (gb : Nat) (cur : List Value), (0 < cs.length → w.heap[gb]? = some (.cells cur.toArray 5 (0, 0))) ∧ (0 < cs.length → ∀ k, k = gb → some k = (Value.slice A t.length c).ownBlock) ∧ (0 < cs.length → t.length ≤ cur.length) ∧ (0 < cs.length → cur.take t.length = t.map (kB).v) ∧ (∀ w', (0 < cs.length → w'.heap[gb]? = some (.cells (Go.splice cur a cs).toArray 5 (0, 0))) → 0 < cs.length → OwnK kB w' base (.slice A t.length c) (overL t f a fr n)) ∧ (0 < cs.length → A1 = some ⟨gb, a, none⟩) := by
    rcases hown.2 with ⟨e, h0⟩ | ⟨g, cap, cur, e, h3, h4, h5, h6, h7, h8⟩
    · exact ⟨base, [], fun h => by omega, fun h => by omega, fun h => by omega, fun h => by omega, fun _ _ h => by omega, fun h => by omega⟩
    · injection e with e1 e2 e3
      subst e1 e3
      simp only [Nat.mul_one] at h7 h8
      have hsz : cur.toList.length = cur.size := Array.length_toList
      have htl' : t.length ≤ cur.toList.length := by omega
      refine ⟨g, cur.toList, fun _ => h4, fun _ k hk => by rw [hk]; rfl, fun _ => htl', fun _ => h8, fun w' hw' hp => ?_, fun hp => ?_⟩
      · have := splice_over (K := kB) t f a fr n cur.toList h8 h1 h2 htl'
        rw [← hcs] at this
        refine ⟨by rw [List.length_map, overL_length h1 h2, Nat.mul_one], .inr ⟨g, c, _, by rw [overL_length h1 h2], h3, hw' hp, by rw [overL_length h1 h2]; exact h5, h6, ?_, ?_⟩⟩
        · rw [List.size_toArray, this.2, hsz, h7, Nat.mul_one]
        · rw [overL_length h1 h2, Nat.mul_one]
          exact this.1
      · have := p1 (by omega) g 0 rfl
        simpa using this
  have hpp : 0 < cs.length → ∀ w' : World, w'.heap = w.heap → w'.heap[gb]? = some (.cells cur.toArray 5 (0, 0)) ∧ A1 = some ⟨gb, a, none⟩ ∧ (∃ ad, A2 = some ad ∧ ∀ j v, cs[j]? = some v → w'.cell? (ad.add j) = some v) ∧ a + cs.length ≤ cur.length := fun h w' hw' => by
    obtain ⟨ad, e1, e2⟩ := hsrc h
    have := hcurl h
    refine ⟨by rw [hw']; exact hgb h, hpos h, ⟨ad, e1, fun j v hj => ?_⟩, by omega⟩
    have := e2 j v hj
    unfold World.cell? at this ⊢
    rw [hw']
    exact this
  have HP := Lib.hid (And.intro hpp (And.intro hmin (And.intro h1c (And.intro hgB (And.intro hfin hown)))))
  have HCL := Lib.hid hcl
  clear hpos hsrc hgb hgB hcurl hcurt hfin hown hmin h1c p1 p2 ho h1 h2 hcs hz hlt hcl hpp
  go_enter Try.func23, Try.ntmps23
  go_wp2_with fail
  refine HA.out.mono ?_
  rintro en V ⟨rfl, rfl⟩
  go_wp2_with fail
  refine HB.out.mono ?_
  rintro en V ⟨rfl, rfl⟩
  go_wp2_with fail
  go_region_law (refine step_copy_own rfl (.tmp 27) (.tmp 33) 22 22 rfl 5 Try.underlying22 u8_sizeS A1 A2 (t.length - a) c1 n c2 (by kernel_rfl) (by kernel_rfl) gb a cur 5 cs HP.out.2.1 (fun h => HP.out.1 h V.drew rfl) HP.out.2.2.1 ?_; intro w4 hg4)
  all_goals
    have HW : Hid (OwnK kB w4 base (.slice A t.length c) (overL t f a fr n) ∧ V.grownBy w4 (Value.slice A t.length c).ownBlock) := Lib.hid (by
      by_cases h0 : 0 < cs.length
      · rw [hg4.out.1 h0]
        obtain ⟨q1, q2, -⟩ := HP.out.1 h0 V.drew rfl
        exact ⟨HP.out.2.2.2.2.1 _ (fun _ => setRow_heap V.drew gb _ _ _ _ q1) h0, ⟨rfl, rfl, rfl, by simp, fun k _ hk => setRow_other V.drew gb k _ (fun e => hk (HP.out.2.2.2.1 h0 k e))⟩⟩
      · rw [hg4.out.2 (by omega)]
        have hn0 : n = 0 := by have := HCL.out; omega
        have he : overL t f a fr n = t := by rw [hn0]; simp [overL]
        rw [he]
        exact ⟨HP.out.2.2.2.2.2.keep (B := V.heap.size) (Below.refl _ _).drew (Nat.le_refl _), ⟨rfl, rfl, rfl, Nat.le_refl _, fun _ _ _ => rfl⟩⟩)
    clear hg4 HP
    go_wp2
    go_ret
    exact ⟨fun _ => ⟨rfl, HW.out.1⟩, fun h => absurd H2.out h, HW.out.2⟩
set_option maxRecDepth 100000 in
set_option maxHeartbeats 4000000 in
theorem lay_int (A Ao : Option Addr) (t f : List Int) (c co a fr n base : Nat) (w : World) (hown : OwnK kI w base (.slice A t.length c) t) (ho : Lead kI w w.heap.size Ao f) (hco : f.length ≤ co) (hao : Ao = none → co = 0) (htl : t.length ≤ 1000000) (hfl : f.length ≤ 1000000) (ha : a ≤ 18446744073709551615) (hfr : fr ≤ 18446744073709551615) (hn : n ≤ 18446744073709551615) :
    Calls Try.prog 18 #[.slice A t.length c, .slice Ao f.length co, .int .u64 (a : Int), .int .u64 (fr : Int), .int .u64 (n : Int)] w fun e w' => (fr + n ≤ f.length ∧ a + n ≤ t.length → e = .returned (.bool true) ∧ OwnK kI w' base (.slice A t.length c) (overL t f a fr n)) ∧ (¬ (fr + n ≤ f.length ∧ a + n ≤ t.length) → e = .returned (.bool false)) ∧ w.grownBy w' (Value.slice A t.length c).ownBlock := by
  by_cases h2 : a + n ≤ t.length
  case neg =>
    have hd : decide (a + n ≤ t.length) = false := decide_eq_false h2
    have HA := Lib.hid (has_any t.length a n w ha hn (by omega))
    rw [hd] at HA
    have H2 : Hid (¬ (fr + n ≤ f.length ∧ a + n ≤ t.length)) := Lib.hid fun h => h2 h.2
    clear hown ho h2 hd
    go_enter Try.func18, Try.ntmps18
    go_wp2_with fail
    refine HA.out.mono ?_
    rintro en V ⟨rfl, rfl⟩
    go_wp2
    go_ret
    exact ⟨fun h => absurd h H2.out, fun _ => rfl, ⟨rfl, rfl, rfl, Nat.le_refl _, fun _ _ _ => rfl⟩⟩
  by_cases h1 : fr + n ≤ f.length
  case neg =>
    have HA := Lib.hid (has_any t.length a n w ha hn (by omega))
    have HB := Lib.hid (has_any f.length fr n w hfr hn (by omega))
    rw [decide_eq_true h2] at HA
    rw [decide_eq_false h1] at HB
    have H2 : Hid (¬ (fr + n ≤ f.length ∧ a + n ≤ t.length)) := Lib.hid fun h => h1 h.1
    clear hown ho h1 h2
    go_enter Try.func18, Try.ntmps18
    go_wp2_with fail
    refine HA.out.mono ?_
    rintro en V ⟨rfl, rfl⟩
    go_wp2_with fail
    refine HB.out.mono ?_
    rintro en V ⟨rfl, rfl⟩
    go_wp2
    go_ret
    exact ⟨fun h => absurd h H2.out, fun _ => rfl, ⟨rfl, rfl, rfl, Nat.le_refl _, fun _ _ _ => rfl⟩⟩
  case pos =>
  have HA := Lib.hid (has_any t.length a n w ha hn (by omega))
  have HB := Lib.hid (has_any f.length fr n w hfr hn (by omega))
  rw [decide_eq_true h2] at HA
  rw [decide_eq_true h1] at HB
  have H2 := Lib.hid (And.intro h1 h2)
  have hct : t.length ≤ c := by
    obtain ⟨A', c', e, _, h4, _⟩ := hown.lead
    injection e with _ _ e3
    omega
  obtain ⟨A1, c1, s1, p1⟩ := kslice_at kI A t c a hct (by omega)
  obtain ⟨A2, c2, s2, p2⟩ := kslice_to kI Ao f co fr (fr + n) hao hco (by omega) h1
  replace p2 := p2 w _ ho
  rw [show fr + n - fr = n from by omega] at p2 s2
  have hw : IntKind.u64.wrap ((fr : Int) + (n : Int)) = (fr : Int) + (n : Int) := by rw [IntKind.wrap_u64]; omega
  have q1 : ∀ W, (Instr.slice 23 (.slice A t.length c) (some (.int .u64 (a : Int))) none none).run Try.prog W = .ok (.slice A1 (t.length - a) c1) W := s1
  have q2 : ∀ W, (Instr.slice 23 (.slice Ao f.length co) (some (.int .u64 (fr : Int))) (some (.int .u64 ((fr : Int) + (n : Int)))) none).run Try.prog W = .ok (.slice A2 n c2) W := fun W => by rw [← s2 W, Int.natCast_add]; rfl
  clear s1 s2
  obtain ⟨cs, hcs⟩ : ∃ cs : List Value, cs = ((f.drop fr).take n).map (kI).v := ⟨_, rfl⟩
  have hcl : cs.length = n := by rw [hcs]; simp; omega
  have HCS := Lib.hid hcs
  have hmin : cs.length = Nat.min n (t.length - a) := by rw [hcl]; exact (Nat.min_eq_left (by omega)).symm
  have h1c : ∀ v ∈ cs, v.oneCell' = true := by rw [hcs]; exact kone _
  have hsrc : 0 < cs.length → ∃ ad, A2 = some ad ∧ ∀ j v, cs[j]? = some v → w.cell? (ad.add j) = some v := fun h => by
    obtain ⟨b, off, e, _⟩ := p2 (by simp; omega)
    subst e
    rw [hcs]
    exact ⟨_, rfl, p2.src⟩
  have hlt := hown.lt
  have hz : ((kI).et) = 3 := rfl
  obtain ⟨gb, cur, hgb, hgB, hcurl, hcurt, hfin, hpos⟩ : ∃ (gb : Nat) (cur : List Value), (0 < cs.length → w.heap[gb]? = some (.cells cur.toArray 3 (0, 0))) ∧ (0 < cs.length → ∀ k, k = gb → some k = (Value.slice A t.length c).ownBlock) ∧ (0 < cs.length → t.length ≤ cur.length) ∧ (0 < cs.length → cur.take t.length = t.map (kI).v) ∧ (∀ w', (0 < cs.length → w'.heap[gb]? = some (.cells (Go.splice cur a cs).toArray 3 (0, 0))) → 0 < cs.length → OwnK kI w' base (.slice A t.length c) (overL t f a fr n)) ∧ (0 < cs.length → A1 = some ⟨gb, a, none⟩) := by
    rcases hown.2 with ⟨e, h0⟩ | ⟨g, cap, cur, e, h3, h4, h5, h6, h7, h8⟩
    · exact ⟨base, [], fun h => by omega, fun h => by omega, fun h => by omega, fun h => by omega, fun _ _ h => by omega, fun h => by omega⟩
    · injection e with e1 e2 e3
      subst e1 e3
      simp only [Nat.mul_one] at h7 h8
      have hsz : cur.toList.length = cur.size := Array.length_toList
      have htl' : t.length ≤ cur.toList.length := by omega
      refine ⟨g, cur.toList, fun _ => h4, fun _ k hk => by rw [hk]; rfl, fun _ => htl', fun _ => h8, fun w' hw' hp => ?_, fun hp => ?_⟩
      · have := splice_over (K := kI) t f a fr n cur.toList h8 h1 h2 htl'
        rw [← hcs] at this
        refine ⟨by rw [List.length_map, overL_length h1 h2, Nat.mul_one], .inr ⟨g, c, _, by rw [overL_length h1 h2], h3, hw' hp, by rw [overL_length h1 h2]; exact h5, h6, ?_, ?_⟩⟩
        · rw [List.size_toArray, this.2, hsz, h7, Nat.mul_one]
        · rw [overL_length h1 h2, Nat.mul_one]
          exact this.1
      · have := p1 (by omega) g 0 rfl
        simpa using this
  have hpp : 0 < cs.length → ∀ w' : World, w'.heap = w.heap → w'.heap[gb]? = some (.cells cur.toArray 3 (0, 0)) ∧ A1 = some ⟨gb, a, none⟩ ∧ (∃ ad, A2 = some ad ∧ ∀ j v, cs[j]? = some v → w'.cell? (ad.add j) = some v) ∧ a + cs.length ≤ cur.length := fun h w' hw' => by
    obtain ⟨ad, e1, e2⟩ := hsrc h
    have := hcurl h
    refine ⟨by rw [hw']; exact hgb h, hpos h, ⟨ad, e1, fun j v hj => ?_⟩, by omega⟩
    have := e2 j v hj
    unfold World.cell? at this ⊢
    rw [hw']
    exact this
  have HP := Lib.hid (And.intro hpp (And.intro hmin (And.intro h1c (And.intro hgB (And.intro hfin hown)))))
  have HCL := Lib.hid hcl
  clear hpos hsrc hgb hgB hcurl hcurt hfin hown hmin h1c p1 p2 ho h1 h2 hcs hz hlt hcl hpp
  go_enter Try.func18, Try.ntmps18
  go_wp2_with fail
  refine HA.out.mono ?_
  rintro en V ⟨rfl, rfl⟩
  go_wp2_with fail
  refine HB.out.mono ?_
  rintro en V ⟨rfl, rfl⟩
  go_wp2_with fail
  go_region_law (refine step_copy_own rfl (.tmp 27) (.tmp 33) 23 23 rfl 3 Try.underlying23 int_sizeS A1 A2 (t.length - a) c1 n c2 (by kernel_rfl) (by kernel_rfl) gb a cur 3 cs HP.out.2.1 (fun h => HP.out.1 h V.drew rfl) HP.out.2.2.1 ?_; intro w4 hg4)
  all_goals
    have HW : Hid (OwnK kI w4 base (.slice A t.length c) (overL t f a fr n) ∧ V.grownBy w4 (Value.slice A t.length c).ownBlock) := Lib.hid (by
      by_cases h0 : 0 < cs.length
      · rw [hg4.out.1 h0]
        obtain ⟨q1, q2, -⟩ := HP.out.1 h0 V.drew rfl
        exact ⟨HP.out.2.2.2.2.1 _ (fun _ => setRow_heap V.drew gb _ _ _ _ q1) h0, ⟨rfl, rfl, rfl, by simp, fun k _ hk => setRow_other V.drew gb k _ (fun e => hk (HP.out.2.2.2.1 h0 k e))⟩⟩
      · rw [hg4.out.2 (by omega)]
        have hn0 : n = 0 := by have := HCL.out; omega
        have he : overL t f a fr n = t := by rw [hn0]; simp [overL]
        rw [he]
        exact ⟨HP.out.2.2.2.2.2.keep (B := V.heap.size) (Below.refl _ _).drew (Nat.le_refl _), ⟨rfl, rfl, rfl, Nat.le_refl _, fun _ _ _ => rfl⟩⟩)
    clear hg4 HP
    go_wp2
    go_ret
    exact ⟨fun _ => ⟨rfl, HW.out.1⟩, fun h => absurd H2.out h, HW.out.2⟩
end Go.Proofs.Ytdcolpmmojiffaa.Sto
